/- What comes to a recorder, and where its pairs lie. -/
import Derived.Test.YtgbcncfgpdlmiaaPX
namespace Go.Proofs.Ytgbcncfgpdlmiaa
open Go.ChangeShapes Go.WideShapes Go.ChangeAt Go.RowKit Go.Maps
set_option linter.unusedVariables false
set_option linter.unusedSimpArgs false

/-- the pairs lie where they lay, or anew -/
def NwP (w : World) (Rs Rs' : List RE) : Prop := ∀ r ∈ Rs', r ∈ Rs ∨ ∀ g, r.2.1.map (fun a => a.block) = some g → w.heap.size ≤ g
theorem NwP.of {w W : World} {z : Nat} {Rs : List RE} {r : RE} {ps : List Pr} (h : POn W z r.2 ps) (hz : w.heap.size ≤ z) : NwP w Rs (Rs ++ [r]) := fun x hx => by
  rcases List.mem_append.1 hx with hx | hx
  · exact .inl hx
  · obtain rfl := List.mem_singleton.1 hx
    exact .inr fun g e => Nat.le_trans hz (h.own g e).1
theorem NwP.down {w w1 : World} {Rs Rs' : List RE} (h : NwP w1 Rs Rs') (hb : w.heap.size ≤ w1.heap.size) : NwP w Rs Rs' := fun r hr => (h r hr).imp id (fun k g e => Nat.le_trans hb (k g e))
def AdEnd2 (B p : Nat) (tasks : Int) (v : Value) (Rs : List RE) (wh t : Int) (a : An) (w : World) (e : Ending) (w' : World) : Prop :=
  e = .returned (.int .i64 (addC tasks (Rs.map Prod.fst) wh t)) ∧ ∃ v' Rs', RcAt w' B p tasks v' Rs' ∧ Rs'.map Prod.fst = addL tasks (Rs.map Prod.fst) wh t a ∧ FrR w w' p v ∧ Nw w v v' ∧ NwP w Rs Rs'
theorem AdEnd2.from {B p : Nat} {tasks : Int} {v : Value} {Rs : List RE} {wh t : Int} {a : An} {w w1 w' : World} {e : Ending} (hb : Below w.heap.size w w1) (h : AdEnd2 B p tasks v Rs wh t a w1 e w') : AdEnd2 B p tasks v Rs wh t a w e w' := by
  obtain ⟨h0, v', Rs', h1, h2, h3, h4, h5⟩ := h
  exact ⟨h0, v', Rs', h1, h2, (FrR.of_below hb).trans h3 Nw.refl, fun k e => (h4 k e).imp id (fun e => Nat.le_trans hb.size e), h5.down hb.size⟩
set_option maxRecDepth 100000 in
set_option maxHeartbeats 8000000 in
theorem add_any2 (B p : Nat) (tasks : Int) (v : Value) (Rs : List RE) (w : World) (h : RcAt w B p tasks v Rs) (hB : B ≤ w.heap.size) (h6 : tasks ≤ 6) (wh t er : Int) (fo : Bool) (va : ByteArray) (ps : List Pr) (A : Option Addr) (n c : Nat) (hp : ∀ W, FrR w W p v → PO W (A, n, c) ps) (hn : n ≤ 100000) (hl : Rs.length ≤ 100000) :
    Calls Try.prog 34 #[.pointer (some ⟨p, 0, none⟩), .int .u8 wh, .int .i64 t, .agg #[.int .i64 er, .bool fo, .string va, .slice A n c]] w (AdEnd2 B p tasks v Rs wh t (er, fo, va, ps) w) := by
  have hb1 : Below w.heap.size w (w.alloc (.cells #[.int .i64 er, .bool fo, .string va, .slice A n c] 31)) := (Below.refl _ _).alloc (Nat.le_refl _) _
  have HB1 := Lib.hid hb1
  have H0 := Lib.hid h
  have H1 := Lib.hid (h.later hb1)
  have HP : Hid (∀ W, FrR w W p v → PO W (A, n, c) ps) := hp
  have HBX : Hid (Blk (w.alloc (.cells #[.int .i64 er, .bool fo, .string va, .slice A n c] 31)) w.heap.size #[.int .i64 er, .bool fo, .string va, .slice A n c] 31) := Blk.new _ _ _
  have c0 := H1.out.blk.cell 0
  have e0 : (recc tasks (Rs.map Prod.fst) v).toArray[0]? = some (.int .i64 tasks) := rfl
  rw [e0] at c0
  have HSAME : Hid (∀ W, Below w.heap.size w W → addC tasks (Rs.map Prod.fst) wh t ≠ 0 → ∃ v' Rs', RcAt W B p tasks v' Rs' ∧ Rs'.map Prod.fst = addL tasks (Rs.map Prod.fst) wh t (er, fo, va, ps) ∧ FrR w W p v ∧ Nw w v v' ∧ NwP w Rs Rs') := fun W hb hne => ⟨v, Rs, h.later hb, by unfold addL; rw [if_neg hne], FrR.of_below hb, Nw.refl, fun r hr => .inl hr⟩
  clear h hb1 hp e0
  by_cases hr : t < 0 ∨ tasks ≤ t
  · have HC : Hid (addC tasks (Rs.map Prod.fst) wh t = 1) := by show _ = _; unfold addC; rw [if_pos hr]
    have HR := Lib.hid hr
    unfold AdEnd2
    rw [HC.out]
    have HE := Lib.hid (HSAME.out _ HB1.out (by rw [HC.out]; decide))
    clear HC HSAME hr
    by_cases h0 : t < 0
    · have d1 : decide (t < 0) = true := decide_eq_true h0
      go_enter Try.func34, Try.ntmps34
      go_wp2
      go_ret
      exact ⟨rfl, HE.out⟩
    · have d1 : decide (t < 0) = false := decide_eq_false h0
      have d2 : decide (tasks ≤ t) = true := decide_eq_true (by rcases HR.out with h | h; exact absurd h h0; exact h)
      go_enter Try.func34, Try.ntmps34
      go_wp2
      go_ret
      exact ⟨rfl, HE.out⟩
  · obtain ⟨k, rfl⟩ : ∃ k : Nat, t = (k : Int) := ⟨t.toNat, by omega⟩
    have hk : k < 6 := by omega
    have d1 : decide ((k : Int) < 0) = false := decide_eq_false (by omega)
    have d2 : decide (tasks ≤ (k : Int)) = false := decide_eq_false (by omega)
    have hcl : cnt (Rs.map Prod.fst) (k : Int) ≤ 100000 := Nat.le_trans (cnt_le _ _) (by rw [List.length_map]; exact hl)
    have HNX : Hid (∀ W, Below w.heap.size w W → Calls Try.prog 33 #[.pointer (some ⟨p, 1, none⟩), .int .i64 (k : Int)] W (NxEnd (cnt (Rs.map Prod.fst) (k : Int)) (k : Int) W)) := fun W hb => next_any p 1 _ (k : Int) W (by omega) (by omega) (by omega) (by
      have := (H0.out.later hb).blk.cell (1 + k)
      rw [Int.toNat_natCast, this, List.getElem?_toArray]; exact recc_at hk)
    have HCC : Hid (addC tasks (Rs.map Prod.fst) wh (k : Int) = if wh = 1 + (cnt (Rs.map Prod.fst) (k : Int) % 3 : Nat) then 0 else 7) := by show _ = _; unfold addC; rw [if_neg hr]
    clear hr
    obtain ⟨m, hm⟩ : ∃ m, cnt (Rs.map Prod.fst) (k : Int) = m := ⟨_, rfl⟩
    rw [hm] at HNX HCC hcl
    have HMM := Lib.hid hm
    clear hm
    go_enter Try.func34, Try.ntmps34
    go_wp2_with fail
    refine (HNX.out _ HB1.out).mono ?_
    rintro e w2 ⟨rfl, hb⟩
    have HB2 := Lib.hid (stepB HB1.out hb)
    have HBX2 := Lib.hid (HBX.out.later hb)
    clear hb HNX HBX HB1 H1 c0
    by_cases hw : wh = 1 + (m % 3 : Nat)
    · have HC : Hid (addC tasks (Rs.map Prod.fst) wh (k : Int) = 0) := by show _ = _; rw [HCC.out, if_pos hw]
      have HAL : Hid (addL tasks (Rs.map Prod.fst) wh (k : Int) (er, fo, va, ps) = Rs.map Prod.fst ++ [(wh, (k : Int), ((m / 3 : Nat) : Int), er, fo, va, ps)]) := by show _ = _; unfold addL; rw [if_pos HC.out, HMM.out]
      unfold AdEnd2
      rw [HC.out]
      clear HSAME HCC
      have q1 : (wh != wh) = false := by simp
      rw [← hw]
      clear hw
      generalize ((m / 3 : Nat) : Int) = cl at *
      have b0 := HBX2.out.cell 0
      have b1 := HBX2.out.cell 1
      have b2 := HBX2.out.cell 2
      have b3 := HBX2.out.cell 3
      simp only [List.getElem?_toArray, List.getElem?_cons_zero, List.getElem?_cons_succ] at b0 b1 b2 b3
      have hbz : Below w2.heap.size w2 (w2.alloc (.cells #[.int .u8 wh, .int .i64 (k : Int), .int .i64 cl, .int .i64 0, .bool false, .string { data := #[] }, .slice none 0 0] 40)) := (Below.refl _ _).alloc (Nat.le_refl _) _
      have HBX3 := Lib.hid (HBX2.out.later hbz)
      have a0 := HBX3.out.cell 0
      have a1 := HBX3.out.cell 1
      have a2 := HBX3.out.cell 2
      have a3 := HBX3.out.cell 3
      simp only [List.getElem?_toArray, List.getElem?_cons_zero, List.getElem?_cons_succ] at a0 a1 a2 a3
      have hbx : Below w2.heap.size w2 (w2.alloc (.cells #[.int .u8 wh, .int .i64 (k : Int), .int .i64 cl, .int .i64 er, .bool fo, .string va, .slice A n c] 40)) := (Below.refl _ _).alloc (Nat.le_refl _) _
      have HBE3 : Hid (Blk (w2.alloc (.cells #[.int .u8 wh, .int .i64 (k : Int), .int .i64 cl, .int .i64 er, .bool fo, .string va, .slice A n c] 40)) w2.heap.size #[.int .u8 wh, .int .i64 (k : Int), .int .i64 cl, .int .i64 er, .bool fo, .string va, .slice A n c] 40) := Blk.new _ _ _
      have HB3 := Lib.hid (stepB HB2.out hbx)
      clear hbz hbx
      go_upto_region 9 with (fail)
      clear b0 b1 b2 b3 a0 a1 a2 a3
      generalize w2.alloc (.cells #[.int .u8 wh, .int .i64 (k : Int), .int .i64 cl, .int .i64 er, .bool fo, .string va, .slice A n c] 40) = w3 at *
      obtain ⟨ge, hge⟩ : ∃ g, w2.heap.size = g := ⟨_, rfl⟩
      rw [hge] at HBE3
      rw [hge]
      have HGE : Hid (w.heap.size ≤ ge) := by rw [← hge]; exact HB2.out.size
      clear hge
      have HR3 := Lib.hid (H0.out.later HB3.out)
      have i1 : ∀ W, (Instr.indexAt 70 (.pointer (some ⟨p, 1, none⟩)) (.int .i64 (k : Int))).run Try.prog W = .ok (.pointer (some ⟨p, 1 + k, none⟩)) W := fun W => by
        have h0 : (0 : Int) ≤ (k : Int) ∧ (k : Int) < 6 := by omega
        go_simp
      have c1 : w3.cell? ⟨p, 1 + k, none⟩ = some (.int .i64 (m : Nat)) := by
        rw [HR3.out.blk.cell (1 + k), List.getElem?_toArray, recc_at hk, HMM.out]
      have wk : IntKind.i64.wrap ((m : Int) + 1) = (m : Int) + 1 := IntWalk.i64_in _ (by omega)
      go_still_tail 10, (by kernel_rfl)
      change wpList _ _ _ _ _ w3.drew
      have hbd : Below w3.heap.size w3 w3.drew := Below.drew (Below.refl _ _)
      have HR4 := Lib.hid (HR3.out.later hbd)
      have HBE4 := Lib.hid (HBE3.out.later hbd)
      have HB4 := Lib.hid (stepB HB3.out hbd)
      have HNE : Hid (ge ≠ p) := by
        intro e
        have h1 : w3.heap[ge]? = some (.cells _ 40 (0, 0)) := HBE3.out
        have h2 : w3.heap[p]? = some (.cells _ 72 (0, 0)) := HR3.out.blk
        rw [e, h2] at h1; cases h1
      have HVE : Hid (v.ownBlock ≠ some ge) := fun e => by
        have h1 := (H0.out.row.lt _ e).2
        have h2 := HGE.out
        omega
      generalize w3.drew = w4 at *
      clear hbd c1
      have c1 : w4.cell? ⟨p, 1 + k, none⟩ = some (.int .i64 (m : Nat)) := by
        rw [HR4.out.blk.cell (1 + k), List.getElem?_toArray, recc_at hk, HMM.out]
      have cf := HR4.out.blk.frozen (1 + k)
      have HO5 : Hid (Rc2 (w4.setCell ⟨p, 1 + k, none⟩ (.int .i64 ((m : Int) + 1))) B p tasks (Rs.map Prod.fst ++ [(wh, (k : Int), cl, er, fo, va, ps)]) v Rs) := by
        refine ⟨HR4.out.hp, ?_, ?_, fun x hx => ?_⟩
        · have := HR4.out.blk.set (j := 1 + k) (.int .i64 ((m : Int) + 1))
          rw [← HMM.out, recc_inc hk (e := (wh, (k : Int), cl, er, fo, va, ps)) rfl] at this
          rw [← HMM.out]; exact this
        · exact HR4.out.row.row.keepS (fun i e => (grown_set w4 p (1 + k) _).block i (HR4.out.row.row.lt i e).2 (fun e2 => HR4.out.row.row.nq HR4.out.blk (by decide) (by rw [e, Option.some.inj e2])))
        · have hq := HR4.out.row.po x hx
          exact hq.keep (by simp) (fun g e => (grown_set w4 p (1 + k) _).block g (hq.lt g e).2 (fun e2 => (hq.notR HR4.out g e).1 (Option.some.inj e2)))
      have HE5 : Hid (Blk (w4.setCell ⟨p, 1 + k, none⟩ (.int .i64 ((m : Int) + 1))) ge #[.int .u8 wh, .int .i64 (k : Int), .int .i64 cl, .int .i64 er, .bool fo, .string va, .slice A n c] 40) := HBE4.out.other HNE.out _
      have HB5 : Hid (FrR w (w4.setCell ⟨p, 1 + k, none⟩ (.int .i64 ((m : Int) + 1))) p v) := (FrR.of_below HB4.out).trans (FrR.set (1 + k) _) Nw.refl
      have HRM : Hid (∀ h : Hd, (Rs ++ [((wh, (k : Int), cl, er, fo, va, ps), h)]).map Prod.fst = Rs.map Prod.fst ++ [(wh, (k : Int), cl, er, fo, va, ps)]) := fun h => by simp
      clear HR3 HBE3 HB3 HR4 HBE4 HB4 HB2 HBX2 HBX3 H0
      go_upto_region 10 with (fail)
      clear c1 cf i1 wk HMM
      generalize w4.setCell ⟨p, 1 + k, none⟩ (.int .i64 ((m : Int) + 1)) = w4b at *
      generalize Rs.map Prod.fst ++ [(wh, (k : Int), cl, er, fo, va, ps)] = L2 at *
      refine wp_region_noPanic ?_
      have hbd : Below w4b.heap.size w4b w4b.drew := Below.drew (Below.refl _ _)
      replace HO5 := Lib.hid (HO5.out.later hbd)
      replace HE5 := Lib.hid (HE5.out.later hbd)
      replace HB5 := Lib.hid (HB5.out.thenB hbd)
      clear hbd
      refine wp_region_held_drew (S := SQ p ge #[.int .u8 wh, .int .i64 (k : Int), .int .i64 cl, .int .i64 er, .bool fo, .string va, .slice A n c]) (by kernel_rfl) ⟨⟨oldc_of (HO5.out.blk.cell 7), HO5.out.blk.frozen 7⟩, HE5.out⟩ (fun hHeld => ?_)
      generalize w4b.drew = w5 at *
      refine wpAnyH_take (i := 0) (oi := { dst := some 43, op := Op.move (Operand.tmp 0), type := 22, pos := "event.go:71", after := #[], guard := none }) (v := ?_) rfl (by kernel_rfl) (by kernel_rfl) (by kernel_rfl) (fun _ _ _ h => h) (Or.inl ⟨by rfl, ?_⟩) (by assumption) ?_
      rotate_left
      · intro W hSw
        clear hSw
        go_simp
        try with_reducible rfl
      simp only [Act.put, List.setIfInBounds_toArray, List.set_cons_zero, List.set_cons_succ]
      refine wpAnyH_take (i := 1) (oi := { dst := some 44, op := Op.move (Operand.tmp 0), type := 22, pos := "event.go:71", after := #[], guard := none }) (v := ?_) rfl (by kernel_rfl) (by kernel_rfl) (by kernel_rfl) (fun _ _ _ h => h) (Or.inl ⟨by rfl, ?_⟩) (by assumption) ?_
      rotate_left
      · intro W hSw
        clear hSw
        go_simp
        try with_reducible rfl
      simp only [Act.put, List.setIfInBounds_toArray, List.set_cons_zero, List.set_cons_succ]
      refine wpAnyH_take (i := 2) (oi := { dst := some 45, op := Op.nilCheck (Operand.tmp 44), type := 0, pos := "event.go:71", after := #[{ on := 1, ground := Ground.data }], guard := none }) (v := ?_) rfl (by kernel_rfl) (by kernel_rfl) (by kernel_rfl) (fun _ _ _ h => h) (Or.inl ⟨by rfl, ?_⟩) (by assumption) ?_
      rotate_left
      · intro W hSw
        clear hSw
        go_simp
        try with_reducible rfl
      simp only [Act.put, List.setIfInBounds_toArray, List.set_cons_zero, List.set_cons_succ]
      refine wpAnyH_take (i := 3) (oi := { dst := some 46, op := Op.fieldAddr 72 (Operand.tmp 45) 2, type := 0, pos := "event.go:71", after := #[{ on := 2, ground := Ground.data }], guard := none }) (v := ?_) rfl (by kernel_rfl) (by kernel_rfl) (by kernel_rfl) (fun _ _ _ h => h) (Or.inl ⟨by rfl, ?_⟩) (by assumption) ?_
      rotate_left
      · intro W hSw
        clear hSw
        go_simp
        try with_reducible rfl
      simp only [Act.put, List.setIfInBounds_toArray, List.set_cons_zero, List.set_cons_succ]
      refine wpAnyH_take (i := 5) (oi := { dst := some 48, op := Op.load 40 (Operand.tmp 9), type := 40, pos := "event.go:71", after := #[], guard := none }) (v := ?_) rfl (by kernel_rfl) (by kernel_rfl) (by kernel_rfl) (fun _ _ _ h => h) (Or.inl ⟨by rfl, ?_⟩) (by assumption) ?_
      rotate_left
      · intro W hSw
        obtain ⟨_, hbk⟩ := hSw
        have k0 := hbk.cell 0
        have k1 := hbk.cell 1
        have k2 := hbk.cell 2
        have k3 := hbk.cell 3
        have k4 := hbk.cell 4
        have k5 := hbk.cell 5
        have k6 := hbk.cell 6
        simp only [List.getElem?_toArray, List.getElem?_cons_zero, List.getElem?_cons_succ] at k0 k1 k2 k3 k4 k5 k6
        go_simp
        try with_reducible rfl
      simp only [Act.put, List.setIfInBounds_toArray, List.set_cons_zero, List.set_cons_succ]
      refine wpAnyH_ready (rs := [4, 6]) (by kernel_rfl) (by simp) (AllReadyH.cons (o := { dst := some 47, op := Op.load 32 (Operand.tmp 46), type := 32, pos := "event.go:71", after := #[{ on := 3, ground := Ground.data }], guard := none }) rfl (fun K hK => ?_) (AllReadyH.cons (o := { dst := some 49, op := Op.call { callee := Callee.value (Operand.func 50), args := #[Operand.tmp 48], argTypes := #[40] }, type := 40, pos := "event.go:71", after := #[{ on := 5, ground := Ground.data }], guard := none }) rfl (fun K hK => ?_) AllReadyH.nil))
      rotate_left
      · refine step_callw (by rfl) 50 #[.agg #[.int .u8 wh, .int .i64 (k : Int), .int .i64 cl, .int .i64 er, .bool fo, .string va, .slice A n c]] (by go_simp) ?_
        refine (own_x wh (k : Int) cl er fo va ps A n c w5 (HP.out _ HB5.out) hn).mono ?_
        rintro z w6 ⟨A6, n6, c6, rfl, hpo, hl6, hb⟩
        have HPQ := Lib.hid hpo
        have HZG : Hid (w.heap.size ≤ w5.heap.size) := HB5.out.size
        have HZ5 := Lib.hid (RcAt.lt2 HO5.out)
        replace HO5 := Lib.hid (HO5.out.later hb)
        replace HE5 := Lib.hid (HE5.out.later hb)
        replace HB5 := Lib.hid (HB5.out.thenB hb)
        clear hpo hb hl6
        refine ⟨_, rfl, hK.out _ _ ⟨⟨oldc_of (HO5.out.blk.cell 7), HO5.out.blk.frozen 7⟩, HE5.out⟩ (fun hHeld2 => ?_)⟩
        clear hK K hHeld
        have hHeld := hHeld2
        clear hHeld2
        try simp only [Act.put, List.setIfInBounds_toArray, List.set_cons_zero, List.set_cons_succ]
        obtain ⟨z5, hz5⟩ : ∃ z5, w5.heap.size = z5 := ⟨_, rfl⟩
        rw [hz5] at HPQ HZG HZ5
        clear hz5
        obtain ⟨w5, hw5⟩ : ∃ x, w6 = x := ⟨_, rfl⟩
        subst hw5
        refine wpAnyH_ready (rs := [4, 7]) (by kernel_rfl) (by simp) (AllReadyH.cons (o := { dst := some 47, op := Op.load 32 (Operand.tmp 46), type := 32, pos := "event.go:71", after := #[{ on := 3, ground := Ground.data }], guard := none }) rfl (fun K hK => ?_) (AllReadyH.cons (o := { dst := some 50, op := Op.buildSlice 32 1 #[(0, Operand.tmp 49)], type := 32, pos := "event.go:71", after := #[{ on := 6, ground := Ground.data }], guard := none }) rfl (fun K hK => ?_) AllReadyH.nil))
        rotate_left
        · have hbx : Below w6.heap.size w6 (w6.alloc (.cells #[.int .u8 wh, .int .i64 (k : Int), .int .i64 cl, .int .i64 er, .bool fo, .string va, .slice A6 n6 c6] 40)) := (Below.refl _ _).alloc (Nat.le_refl _) _
          have HX : Hid (RSl evc 7 (w6.alloc (.cells #[.int .u8 wh, .int .i64 (k : Int), .int .i64 cl, .int .i64 er, .bool fo, .string va, .slice A6 n6 c6] 40)) (some ⟨w6.heap.size, 0, none⟩) 1 [((wh, (k : Int), cl, er, fo, va, ps), (A6, n6, c6))]) := Blk.rsl (x := ((wh, (k : Int), cl, er, fo, va, ps), (A6, n6, c6))) (Blk.new w6 _ 40)
          replace HO5 := Lib.hid (HO5.out.later hbx)
          replace HE5 := Lib.hid (HE5.out.later hbx)
          replace HB5 := Lib.hid (HB5.out.thenB hbx)
          replace HPQ := Lib.hid (HPQ.out.later hbx)
          clear hbx
          go_simp
          refine hK.out _ _ ⟨⟨oldc_of (HO5.out.blk.cell 7), HO5.out.blk.frozen 7⟩, HE5.out⟩ (fun hHeld2 => ?_)
          clear hK K
          try clear hHeld
          have hHeld := hHeld2
          clear hHeld2
          try simp only [Act.put, List.setIfInBounds_toArray, List.set_cons_zero, List.set_cons_succ]
          generalize w6.alloc (.cells #[.int .u8 wh, .int .i64 (k : Int), .int .i64 cl, .int .i64 er, .bool fo, .string va, .slice A6 n6 c6] 40) = w7 at *
          generalize w6.heap.size = xq at *
          refine wpAnyH_ready (rs := [4]) (by kernel_rfl) (by simp) (AllReadyH.cons (o := { dst := some 47, op := Op.load 32 (Operand.tmp 46), type := 32, pos := "event.go:71", after := #[{ on := 3, ground := Ground.data }], guard := none }) rfl (fun K hK => ?_) AllReadyH.nil)
          have c1 := HO5.out.blk.cell 7
          have e7 : (recc tasks L2 v).toArray[7]? = some v := rfl
          rw [e7] at c1
          clear hHeld e7
          go_simp
          clear c1
          refine hK.out _ _ ⟨⟨oldc_of (HO5.out.blk.cell 7), HO5.out.blk.frozen 7⟩, HE5.out⟩ (fun hHeld2 => ?_)
          clear hK K
          try clear hHeld
          have hHeld := hHeld2
          clear hHeld2
          try simp only [Act.put, List.setIfInBounds_toArray, List.set_cons_zero, List.set_cons_succ]
          refine wpAnyH_ready (rs := [8]) (by kernel_rfl) (by simp) (AllReadyH.cons (o := { dst := some 51, op := Op.call { callee := Callee.builtin Builtin.append, args := #[Operand.tmp 47, Operand.tmp 50], argTypes := #[32, 32] }, type := 32, pos := "event.go:71", after := #[{ on := 4, ground := Ground.data }, { on := 7, ground := Ground.data }, { on := 6, ground := Ground.chain }], guard := none }) rfl (fun K hK => ?_) AllReadyH.nil)
          refine step_append_row1 elemEv rfl (.tmp 47) (.tmp 50) rfl B v Rs.length Rs rfl HO5.out.row.row xq 1 ((wh, (k : Int), cl, er, fo, va, ps), (A6, n6, c6)) rfl HX.out (by omega) (by decide) (by have := HB5.out.size; omega) (fun A8 c8 w8 ho8 hg8 hn8 hl8 => ?_)
          have HM := Lib.hid (RcAt.grow HO5.out hg8 (POn.base HPQ.out (by have := HZG.out; omega)) ho8)
          have HPN : Hid (NwP w Rs (Rs ++ [((wh, (k : Int), cl, er, fo, va, ps), (A6, n6, c6))])) := NwP.of HPQ.out HZG.out
          have HNW : Hid (Nw w v (.slice A8 (Rs.length + 1) c8)) := Lib.hid (fun j e => (hn8 j e).imp id (fun e => Nat.le_trans HB5.out.size e))
          have HF8 := Lib.hid (HB5.out.trans (FrR.grow (p := p) hg8) Nw.refl)
          have HE8 := Lib.hid (HE5.out.grown hg8 (fun e => HVE.out e.symm))
          clear ho8 hg8 hn8 hl8
          refine hK.out _ _ ⟨⟨oldc_of (HM.out.1.cell 7), HM.out.1.frozen 7⟩, HE8.out⟩ (fun hHeld2 => ?_)
          clear hK K hHeld
          have hHeld := hHeld2
          clear hHeld2
          try simp only [Act.put, List.setIfInBounds_toArray, List.set_cons_zero, List.set_cons_succ]
          refine wpAnyH_take (i := 9) (oi := { dst := some 52, op := Op.nilCheck (Operand.tmp 43), type := 0, pos := "event.go:71", after := #[{ on := 0, ground := Ground.data }, { on := 0, ground := Ground.phase }, { on := 1, ground := Ground.phase }, { on := 2, ground := Ground.phase }, { on := 3, ground := Ground.phase }, { on := 4, ground := Ground.phase }, { on := 5, ground := Ground.phase }, { on := 6, ground := Ground.phase }, { on := 7, ground := Ground.phase }, { on := 8, ground := Ground.phase }], guard := none }) (v := ?_) rfl (by kernel_rfl) (by kernel_rfl) (by kernel_rfl) (fun _ _ _ h => h) (Or.inl ⟨by rfl, ?_⟩) (by assumption) ?_
          rotate_left
          · intro W hSw
            clear hSw
            go_simp
            try with_reducible rfl
          simp only [Act.put, List.setIfInBounds_toArray, List.set_cons_zero, List.set_cons_succ]
          refine wpAnyH_take (i := 10) (oi := { dst := some 53, op := Op.fieldAddr 72 (Operand.tmp 52) 2, type := 0, pos := "event.go:71", after := #[{ on := 9, ground := Ground.data }, { on := 0, ground := Ground.phase }, { on := 1, ground := Ground.phase }, { on := 2, ground := Ground.phase }, { on := 3, ground := Ground.phase }, { on := 4, ground := Ground.phase }, { on := 5, ground := Ground.phase }, { on := 6, ground := Ground.phase }, { on := 7, ground := Ground.phase }, { on := 8, ground := Ground.phase }], guard := none }) (v := ?_) rfl (by kernel_rfl) (by kernel_rfl) (by kernel_rfl) (fun _ _ _ h => h) (Or.inl ⟨by rfl, ?_⟩) (by assumption) ?_
          rotate_left
          · intro W hSw
            clear hSw
            go_simp
            try with_reducible rfl
          simp only [Act.put, List.setIfInBounds_toArray, List.set_cons_zero, List.set_cons_succ]
          refine wpAnyH_ready (rs := [11]) (by kernel_rfl) (by simp) (AllReadyH.cons (o := { dst := none, op := Op.store 32 (Operand.tmp 53) (Operand.tmp 51), type := 0, pos := "event.go:71", after := #[{ on := 10, ground := Ground.data }, { on := 8, ground := Ground.data }, { on := 8, ground := Ground.chain }, { on := 0, ground := Ground.phase }, { on := 1, ground := Ground.phase }, { on := 2, ground := Ground.phase }, { on := 3, ground := Ground.phase }, { on := 4, ground := Ground.phase }, { on := 5, ground := Ground.phase }, { on := 6, ground := Ground.phase }, { on := 7, ground := Ground.phase }, { on := 8, ground := Ground.phase }], guard := none }) rfl (fun K hK => ?_) AllReadyH.nil)
          clear hHeld
          have q1 := HM.out.1.cell 7
          have qf := HM.out.1.frozen 7
          have e7 : (recc tasks L2 v).toArray[7]? = some v := rfl
          rw [e7] at q1
          have HE9 := Lib.hid (HE8.out.other (j := 7) (show ge ≠ p from HNE.out) (.slice A8 (Rs.length + 1) c8))
          have HF9 := Lib.hid (HF8.out.trans (FrR.set (W := w8) (v := v) 7 (.slice A8 (Rs.length + 1) c8)) Nw.refl)
          go_simp
          refine hK.out _ _ ⟨⟨oldc_of (HM.out.2.blk.cell 7), HM.out.2.blk.frozen 7⟩, HE9.out⟩ (fun hHeld2 => ?_)
          clear hK K q1 qf e7
          refine wpAnyH_done (by kernel_rfl) (NoPanic.normal ?_) _
          clear hHeld2
          go_wp2
          go_ret
          exact ⟨by first | (rw [HC.out]; done) | (rw [HC.out]; rfl), _, _, HM.out.2.rc (HRM.out _), (HRM.out _).trans HAL.out.symm, HF9.out, HNW.out, HPN.out⟩
        · have c1 := HO5.out.blk.cell 7
          have e7 : (recc tasks L2 v).toArray[7]? = some v := rfl
          rw [e7] at c1
          clear hHeld e7
          go_simp
          clear c1
          refine hK.out _ _ ⟨⟨oldc_of (HO5.out.blk.cell 7), HO5.out.blk.frozen 7⟩, HE5.out⟩ (fun hHeld2 => ?_)
          clear hK K
          try clear hHeld
          have hHeld := hHeld2
          clear hHeld2
          try simp only [Act.put, List.setIfInBounds_toArray, List.set_cons_zero, List.set_cons_succ]
          refine wpAnyH_ready (rs := [7]) (by kernel_rfl) (by simp) (AllReadyH.cons (o := { dst := some 50, op := Op.buildSlice 32 1 #[(0, Operand.tmp 49)], type := 32, pos := "event.go:71", after := #[{ on := 6, ground := Ground.data }], guard := none }) rfl (fun K hK => ?_) AllReadyH.nil)
          have hbx : Below w6.heap.size w6 (w6.alloc (.cells #[.int .u8 wh, .int .i64 (k : Int), .int .i64 cl, .int .i64 er, .bool fo, .string va, .slice A6 n6 c6] 40)) := (Below.refl _ _).alloc (Nat.le_refl _) _
          have HX : Hid (RSl evc 7 (w6.alloc (.cells #[.int .u8 wh, .int .i64 (k : Int), .int .i64 cl, .int .i64 er, .bool fo, .string va, .slice A6 n6 c6] 40)) (some ⟨w6.heap.size, 0, none⟩) 1 [((wh, (k : Int), cl, er, fo, va, ps), (A6, n6, c6))]) := Blk.rsl (x := ((wh, (k : Int), cl, er, fo, va, ps), (A6, n6, c6))) (Blk.new w6 _ 40)
          replace HO5 := Lib.hid (HO5.out.later hbx)
          replace HE5 := Lib.hid (HE5.out.later hbx)
          replace HB5 := Lib.hid (HB5.out.thenB hbx)
          replace HPQ := Lib.hid (HPQ.out.later hbx)
          clear hbx
          go_simp
          refine hK.out _ _ ⟨⟨oldc_of (HO5.out.blk.cell 7), HO5.out.blk.frozen 7⟩, HE5.out⟩ (fun hHeld2 => ?_)
          clear hK K
          try clear hHeld
          have hHeld := hHeld2
          clear hHeld2
          try simp only [Act.put, List.setIfInBounds_toArray, List.set_cons_zero, List.set_cons_succ]
          generalize w6.alloc (.cells #[.int .u8 wh, .int .i64 (k : Int), .int .i64 cl, .int .i64 er, .bool fo, .string va, .slice A6 n6 c6] 40) = w7 at *
          generalize w6.heap.size = xq at *
          refine wpAnyH_ready (rs := [8]) (by kernel_rfl) (by simp) (AllReadyH.cons (o := { dst := some 51, op := Op.call { callee := Callee.builtin Builtin.append, args := #[Operand.tmp 47, Operand.tmp 50], argTypes := #[32, 32] }, type := 32, pos := "event.go:71", after := #[{ on := 4, ground := Ground.data }, { on := 7, ground := Ground.data }, { on := 6, ground := Ground.chain }], guard := none }) rfl (fun K hK => ?_) AllReadyH.nil)
          refine step_append_row1 elemEv rfl (.tmp 47) (.tmp 50) rfl B v Rs.length Rs rfl HO5.out.row.row xq 1 ((wh, (k : Int), cl, er, fo, va, ps), (A6, n6, c6)) rfl HX.out (by omega) (by decide) (by have := HB5.out.size; omega) (fun A8 c8 w8 ho8 hg8 hn8 hl8 => ?_)
          have HM := Lib.hid (RcAt.grow HO5.out hg8 (POn.base HPQ.out (by have := HZG.out; omega)) ho8)
          have HPN : Hid (NwP w Rs (Rs ++ [((wh, (k : Int), cl, er, fo, va, ps), (A6, n6, c6))])) := NwP.of HPQ.out HZG.out
          have HNW : Hid (Nw w v (.slice A8 (Rs.length + 1) c8)) := Lib.hid (fun j e => (hn8 j e).imp id (fun e => Nat.le_trans HB5.out.size e))
          have HF8 := Lib.hid (HB5.out.trans (FrR.grow (p := p) hg8) Nw.refl)
          have HE8 := Lib.hid (HE5.out.grown hg8 (fun e => HVE.out e.symm))
          clear ho8 hg8 hn8 hl8
          refine hK.out _ _ ⟨⟨oldc_of (HM.out.1.cell 7), HM.out.1.frozen 7⟩, HE8.out⟩ (fun hHeld2 => ?_)
          clear hK K hHeld
          have hHeld := hHeld2
          clear hHeld2
          try simp only [Act.put, List.setIfInBounds_toArray, List.set_cons_zero, List.set_cons_succ]
          refine wpAnyH_take (i := 9) (oi := { dst := some 52, op := Op.nilCheck (Operand.tmp 43), type := 0, pos := "event.go:71", after := #[{ on := 0, ground := Ground.data }, { on := 0, ground := Ground.phase }, { on := 1, ground := Ground.phase }, { on := 2, ground := Ground.phase }, { on := 3, ground := Ground.phase }, { on := 4, ground := Ground.phase }, { on := 5, ground := Ground.phase }, { on := 6, ground := Ground.phase }, { on := 7, ground := Ground.phase }, { on := 8, ground := Ground.phase }], guard := none }) (v := ?_) rfl (by kernel_rfl) (by kernel_rfl) (by kernel_rfl) (fun _ _ _ h => h) (Or.inl ⟨by rfl, ?_⟩) (by assumption) ?_
          rotate_left
          · intro W hSw
            clear hSw
            go_simp
            try with_reducible rfl
          simp only [Act.put, List.setIfInBounds_toArray, List.set_cons_zero, List.set_cons_succ]
          refine wpAnyH_take (i := 10) (oi := { dst := some 53, op := Op.fieldAddr 72 (Operand.tmp 52) 2, type := 0, pos := "event.go:71", after := #[{ on := 9, ground := Ground.data }, { on := 0, ground := Ground.phase }, { on := 1, ground := Ground.phase }, { on := 2, ground := Ground.phase }, { on := 3, ground := Ground.phase }, { on := 4, ground := Ground.phase }, { on := 5, ground := Ground.phase }, { on := 6, ground := Ground.phase }, { on := 7, ground := Ground.phase }, { on := 8, ground := Ground.phase }], guard := none }) (v := ?_) rfl (by kernel_rfl) (by kernel_rfl) (by kernel_rfl) (fun _ _ _ h => h) (Or.inl ⟨by rfl, ?_⟩) (by assumption) ?_
          rotate_left
          · intro W hSw
            clear hSw
            go_simp
            try with_reducible rfl
          simp only [Act.put, List.setIfInBounds_toArray, List.set_cons_zero, List.set_cons_succ]
          refine wpAnyH_ready (rs := [11]) (by kernel_rfl) (by simp) (AllReadyH.cons (o := { dst := none, op := Op.store 32 (Operand.tmp 53) (Operand.tmp 51), type := 0, pos := "event.go:71", after := #[{ on := 10, ground := Ground.data }, { on := 8, ground := Ground.data }, { on := 8, ground := Ground.chain }, { on := 0, ground := Ground.phase }, { on := 1, ground := Ground.phase }, { on := 2, ground := Ground.phase }, { on := 3, ground := Ground.phase }, { on := 4, ground := Ground.phase }, { on := 5, ground := Ground.phase }, { on := 6, ground := Ground.phase }, { on := 7, ground := Ground.phase }, { on := 8, ground := Ground.phase }], guard := none }) rfl (fun K hK => ?_) AllReadyH.nil)
          clear hHeld
          have q1 := HM.out.1.cell 7
          have qf := HM.out.1.frozen 7
          have e7 : (recc tasks L2 v).toArray[7]? = some v := rfl
          rw [e7] at q1
          have HE9 := Lib.hid (HE8.out.other (j := 7) (show ge ≠ p from HNE.out) (.slice A8 (Rs.length + 1) c8))
          have HF9 := Lib.hid (HF8.out.trans (FrR.set (W := w8) (v := v) 7 (.slice A8 (Rs.length + 1) c8)) Nw.refl)
          go_simp
          refine hK.out _ _ ⟨⟨oldc_of (HM.out.2.blk.cell 7), HM.out.2.blk.frozen 7⟩, HE9.out⟩ (fun hHeld2 => ?_)
          clear hK K q1 qf e7
          refine wpAnyH_done (by kernel_rfl) (NoPanic.normal ?_) _
          clear hHeld2
          go_wp2
          go_ret
          exact ⟨by first | (rw [HC.out]; done) | (rw [HC.out]; rfl), _, _, HM.out.2.rc (HRM.out _), (HRM.out _).trans HAL.out.symm, HF9.out, HNW.out, HPN.out⟩
      · have c1 := HO5.out.blk.cell 7
        have e7 : (recc tasks L2 v).toArray[7]? = some v := rfl
        rw [e7] at c1
        clear hHeld e7
        go_simp
        clear c1
        refine hK.out _ _ ⟨⟨oldc_of (HO5.out.blk.cell 7), HO5.out.blk.frozen 7⟩, HE5.out⟩ (fun hHeld2 => ?_)
        clear hK K
        try clear hHeld
        have hHeld := hHeld2
        clear hHeld2
        try simp only [Act.put, List.setIfInBounds_toArray, List.set_cons_zero, List.set_cons_succ]
        refine wpAnyH_ready (rs := [6]) (by kernel_rfl) (by simp) (AllReadyH.cons (o := { dst := some 49, op := Op.call { callee := Callee.value (Operand.func 50), args := #[Operand.tmp 48], argTypes := #[40] }, type := 40, pos := "event.go:71", after := #[{ on := 5, ground := Ground.data }], guard := none }) rfl (fun K hK => ?_) AllReadyH.nil)
        refine step_callw (by rfl) 50 #[.agg #[.int .u8 wh, .int .i64 (k : Int), .int .i64 cl, .int .i64 er, .bool fo, .string va, .slice A n c]] (by go_simp) ?_
        refine (own_x wh (k : Int) cl er fo va ps A n c w5 (HP.out _ HB5.out) hn).mono ?_
        rintro z w6 ⟨A6, n6, c6, rfl, hpo, hl6, hb⟩
        have HPQ := Lib.hid hpo
        have HZG : Hid (w.heap.size ≤ w5.heap.size) := HB5.out.size
        have HZ5 := Lib.hid (RcAt.lt2 HO5.out)
        replace HO5 := Lib.hid (HO5.out.later hb)
        replace HE5 := Lib.hid (HE5.out.later hb)
        replace HB5 := Lib.hid (HB5.out.thenB hb)
        clear hpo hb hl6
        refine ⟨_, rfl, hK.out _ _ ⟨⟨oldc_of (HO5.out.blk.cell 7), HO5.out.blk.frozen 7⟩, HE5.out⟩ (fun hHeld2 => ?_)⟩
        clear hK K hHeld
        have hHeld := hHeld2
        clear hHeld2
        try simp only [Act.put, List.setIfInBounds_toArray, List.set_cons_zero, List.set_cons_succ]
        obtain ⟨z5, hz5⟩ : ∃ z5, w5.heap.size = z5 := ⟨_, rfl⟩
        rw [hz5] at HPQ HZG HZ5
        clear hz5
        obtain ⟨w5, hw5⟩ : ∃ x, w6 = x := ⟨_, rfl⟩
        subst hw5
        refine wpAnyH_ready (rs := [7]) (by kernel_rfl) (by simp) (AllReadyH.cons (o := { dst := some 50, op := Op.buildSlice 32 1 #[(0, Operand.tmp 49)], type := 32, pos := "event.go:71", after := #[{ on := 6, ground := Ground.data }], guard := none }) rfl (fun K hK => ?_) AllReadyH.nil)
        have hbx : Below w6.heap.size w6 (w6.alloc (.cells #[.int .u8 wh, .int .i64 (k : Int), .int .i64 cl, .int .i64 er, .bool fo, .string va, .slice A6 n6 c6] 40)) := (Below.refl _ _).alloc (Nat.le_refl _) _
        have HX : Hid (RSl evc 7 (w6.alloc (.cells #[.int .u8 wh, .int .i64 (k : Int), .int .i64 cl, .int .i64 er, .bool fo, .string va, .slice A6 n6 c6] 40)) (some ⟨w6.heap.size, 0, none⟩) 1 [((wh, (k : Int), cl, er, fo, va, ps), (A6, n6, c6))]) := Blk.rsl (x := ((wh, (k : Int), cl, er, fo, va, ps), (A6, n6, c6))) (Blk.new w6 _ 40)
        replace HO5 := Lib.hid (HO5.out.later hbx)
        replace HE5 := Lib.hid (HE5.out.later hbx)
        replace HB5 := Lib.hid (HB5.out.thenB hbx)
        replace HPQ := Lib.hid (HPQ.out.later hbx)
        clear hbx
        go_simp
        refine hK.out _ _ ⟨⟨oldc_of (HO5.out.blk.cell 7), HO5.out.blk.frozen 7⟩, HE5.out⟩ (fun hHeld2 => ?_)
        clear hK K
        try clear hHeld
        have hHeld := hHeld2
        clear hHeld2
        try simp only [Act.put, List.setIfInBounds_toArray, List.set_cons_zero, List.set_cons_succ]
        generalize w6.alloc (.cells #[.int .u8 wh, .int .i64 (k : Int), .int .i64 cl, .int .i64 er, .bool fo, .string va, .slice A6 n6 c6] 40) = w7 at *
        generalize w6.heap.size = xq at *
        refine wpAnyH_ready (rs := [8]) (by kernel_rfl) (by simp) (AllReadyH.cons (o := { dst := some 51, op := Op.call { callee := Callee.builtin Builtin.append, args := #[Operand.tmp 47, Operand.tmp 50], argTypes := #[32, 32] }, type := 32, pos := "event.go:71", after := #[{ on := 4, ground := Ground.data }, { on := 7, ground := Ground.data }, { on := 6, ground := Ground.chain }], guard := none }) rfl (fun K hK => ?_) AllReadyH.nil)
        refine step_append_row1 elemEv rfl (.tmp 47) (.tmp 50) rfl B v Rs.length Rs rfl HO5.out.row.row xq 1 ((wh, (k : Int), cl, er, fo, va, ps), (A6, n6, c6)) rfl HX.out (by omega) (by decide) (by have := HB5.out.size; omega) (fun A8 c8 w8 ho8 hg8 hn8 hl8 => ?_)
        have HM := Lib.hid (RcAt.grow HO5.out hg8 (POn.base HPQ.out (by have := HZG.out; omega)) ho8)
        have HPN : Hid (NwP w Rs (Rs ++ [((wh, (k : Int), cl, er, fo, va, ps), (A6, n6, c6))])) := NwP.of HPQ.out HZG.out
        have HNW : Hid (Nw w v (.slice A8 (Rs.length + 1) c8)) := Lib.hid (fun j e => (hn8 j e).imp id (fun e => Nat.le_trans HB5.out.size e))
        have HF8 := Lib.hid (HB5.out.trans (FrR.grow (p := p) hg8) Nw.refl)
        have HE8 := Lib.hid (HE5.out.grown hg8 (fun e => HVE.out e.symm))
        clear ho8 hg8 hn8 hl8
        refine hK.out _ _ ⟨⟨oldc_of (HM.out.1.cell 7), HM.out.1.frozen 7⟩, HE8.out⟩ (fun hHeld2 => ?_)
        clear hK K hHeld
        have hHeld := hHeld2
        clear hHeld2
        try simp only [Act.put, List.setIfInBounds_toArray, List.set_cons_zero, List.set_cons_succ]
        refine wpAnyH_take (i := 9) (oi := { dst := some 52, op := Op.nilCheck (Operand.tmp 43), type := 0, pos := "event.go:71", after := #[{ on := 0, ground := Ground.data }, { on := 0, ground := Ground.phase }, { on := 1, ground := Ground.phase }, { on := 2, ground := Ground.phase }, { on := 3, ground := Ground.phase }, { on := 4, ground := Ground.phase }, { on := 5, ground := Ground.phase }, { on := 6, ground := Ground.phase }, { on := 7, ground := Ground.phase }, { on := 8, ground := Ground.phase }], guard := none }) (v := ?_) rfl (by kernel_rfl) (by kernel_rfl) (by kernel_rfl) (fun _ _ _ h => h) (Or.inl ⟨by rfl, ?_⟩) (by assumption) ?_
        rotate_left
        · intro W hSw
          clear hSw
          go_simp
          try with_reducible rfl
        simp only [Act.put, List.setIfInBounds_toArray, List.set_cons_zero, List.set_cons_succ]
        refine wpAnyH_take (i := 10) (oi := { dst := some 53, op := Op.fieldAddr 72 (Operand.tmp 52) 2, type := 0, pos := "event.go:71", after := #[{ on := 9, ground := Ground.data }, { on := 0, ground := Ground.phase }, { on := 1, ground := Ground.phase }, { on := 2, ground := Ground.phase }, { on := 3, ground := Ground.phase }, { on := 4, ground := Ground.phase }, { on := 5, ground := Ground.phase }, { on := 6, ground := Ground.phase }, { on := 7, ground := Ground.phase }, { on := 8, ground := Ground.phase }], guard := none }) (v := ?_) rfl (by kernel_rfl) (by kernel_rfl) (by kernel_rfl) (fun _ _ _ h => h) (Or.inl ⟨by rfl, ?_⟩) (by assumption) ?_
        rotate_left
        · intro W hSw
          clear hSw
          go_simp
          try with_reducible rfl
        simp only [Act.put, List.setIfInBounds_toArray, List.set_cons_zero, List.set_cons_succ]
        refine wpAnyH_ready (rs := [11]) (by kernel_rfl) (by simp) (AllReadyH.cons (o := { dst := none, op := Op.store 32 (Operand.tmp 53) (Operand.tmp 51), type := 0, pos := "event.go:71", after := #[{ on := 10, ground := Ground.data }, { on := 8, ground := Ground.data }, { on := 8, ground := Ground.chain }, { on := 0, ground := Ground.phase }, { on := 1, ground := Ground.phase }, { on := 2, ground := Ground.phase }, { on := 3, ground := Ground.phase }, { on := 4, ground := Ground.phase }, { on := 5, ground := Ground.phase }, { on := 6, ground := Ground.phase }, { on := 7, ground := Ground.phase }, { on := 8, ground := Ground.phase }], guard := none }) rfl (fun K hK => ?_) AllReadyH.nil)
        clear hHeld
        have q1 := HM.out.1.cell 7
        have qf := HM.out.1.frozen 7
        have e7 : (recc tasks L2 v).toArray[7]? = some v := rfl
        rw [e7] at q1
        have HE9 := Lib.hid (HE8.out.other (j := 7) (show ge ≠ p from HNE.out) (.slice A8 (Rs.length + 1) c8))
        have HF9 := Lib.hid (HF8.out.trans (FrR.set (W := w8) (v := v) 7 (.slice A8 (Rs.length + 1) c8)) Nw.refl)
        go_simp
        refine hK.out _ _ ⟨⟨oldc_of (HM.out.2.blk.cell 7), HM.out.2.blk.frozen 7⟩, HE9.out⟩ (fun hHeld2 => ?_)
        clear hK K q1 qf e7
        refine wpAnyH_done (by kernel_rfl) (NoPanic.normal ?_) _
        clear hHeld2
        go_wp2
        go_ret
        exact ⟨by first | (rw [HC.out]; done) | (rw [HC.out]; rfl), _, _, HM.out.2.rc (HRM.out _), (HRM.out _).trans HAL.out.symm, HF9.out, HNW.out, HPN.out⟩
    · have HC : Hid (addC tasks (Rs.map Prod.fst) wh (k : Int) = 7) := by show _ = _; rw [HCC.out, if_neg hw]
      have q1 : ((1 + ((m % 3 : Nat) : Int)) != wh) = true := by simp; omega
      have hbx : Below w2.heap.size w2 (w2.alloc (.cells #[.int .u8 (1 + (m % 3 : Nat)), .int .i64 (k : Int), .int .i64 (m / 3 : Nat), .int .i64 0, .bool false, .string { data := #[] }, .slice none 0 0] 40)) := (Below.refl _ _).alloc (Nat.le_refl _) _
      unfold AdEnd2
      rw [HC.out]
      have HE := Lib.hid (HSAME.out _ (stepB HB2.out hbx) (by rw [HC.out]; decide))
      clear HSAME HCC hw hbx
      generalize 1 + ((m % 3 : Nat) : Int) = x1 at *
      generalize ((m / 3 : Nat) : Int) = x2 at *
      go_wp2
      go_ret
      exact ⟨by first | (rw [HC.out]; done) | (rw [HC.out]; rfl), HE.out⟩
set_option maxRecDepth 100000 in
set_option maxHeartbeats 4000000 in
theorem invoke_any2 (B p : Nat) (tasks : Int) (v : Value) (Rs : List RE) (w : World) (h : RcAt w B p tasks v Rs) (hB : B ≤ w.heap.size) (h6 : tasks ≤ 6) (t : Int) (hl : Rs.length ≤ 100000) : Calls Try.prog 12 #[.pointer (some ⟨p, 0, none⟩), .int .i64 t] w (AdEnd2 B p tasks v Rs 1 t an0 w) := by
  have HA := Lib.hid (add_any2 B p tasks v Rs w h hB h6 1 t 0 false { data := #[] } [] none 0 0 (fun W _ => PO.empty W) (by omega) hl)
  have hbt := built31
  clear h
  go_enter Try.func12, Try.ntmps12
  go_wp2_with (first
    | (refine wpl_build rfl 31 _ rfl _ hbt ?_)
    | fail)
  refine HA.out.mono ?_
  rintro e w1 ⟨rfl, hh⟩
  have HH := Lib.hid hh
  clear hh
  go_wp2
  go_ret
  exact ⟨rfl, HH.out⟩
set_option maxRecDepth 100000 in
set_option maxHeartbeats 4000000 in
theorem mark_any2 (B p : Nat) (tasks : Int) (v : Value) (Rs : List RE) (w : World) (h : RcAt w B p tasks v Rs) (hB : B ≤ w.heap.size) (h6 : tasks ≤ 6) (t : Int) (hl : Rs.length ≤ 100000) : Calls Try.prog 13 #[.pointer (some ⟨p, 0, none⟩), .int .i64 t] w (AdEnd2 B p tasks v Rs 2 t an0 w) := by
  have HA := Lib.hid (add_any2 B p tasks v Rs w h hB h6 2 t 0 false { data := #[] } [] none 0 0 (fun W _ => PO.empty W) (by omega) hl)
  have hbt := built31
  clear h
  go_enter Try.func13, Try.ntmps13
  go_wp2_with (first
    | (refine wpl_build rfl 31 _ rfl _ hbt ?_)
    | fail)
  refine HA.out.mono ?_
  rintro e w1 ⟨rfl, hh⟩
  have HH := Lib.hid hh
  clear hh
  go_wp2
  go_ret
  exact ⟨rfl, HH.out⟩
set_option maxRecDepth 100000 in
set_option maxHeartbeats 4000000 in
theorem return_any2 (B p : Nat) (tasks : Int) (v : Value) (Rs : List RE) (w : World) (h : RcAt w B p tasks v Rs) (hB : B ≤ w.heap.size) (h6 : tasks ≤ 6) (t er : Int) (fo : Bool) (va : ByteArray) (ps : List Pr) (A : Option Addr) (n c : Nat) (hp : ∀ W, FrR w W p v → PO W (A, n, c) ps) (hn : n ≤ 100000) (hl : Rs.length ≤ 100000) :
    Calls Try.prog 14 #[.pointer (some ⟨p, 0, none⟩), .int .i64 t, .agg #[.int .i64 er, .bool fo, .string va, .slice A n c]] w (AdEnd2 B p tasks v Rs 3 t (er, fo, va, ps) w) := by
  have hb : Below w.heap.size w (w.alloc (.cells #[.int .i64 er, .bool fo, .string va, .slice A n c] 31)) := (Below.refl _ _).alloc (Nat.le_refl _) _
  have HB := Lib.hid hb
  have HA := Lib.hid (add_any2 B p tasks v Rs (w.alloc (.cells #[.int .i64 er, .bool fo, .string va, .slice A n c] 31)) (h.later hb) (Nat.le_trans hB hb.size) h6 3 t er fo va ps A n c (fun W hf => hp W ((FrR.of_below hb).trans hf Nw.refl)) hn hl)
  clear h hb hp
  go_enter Try.func14, Try.ntmps14
  go_wp2_with fail
  refine HA.out.mono ?_
  rintro e w1 ⟨rfl, v', Rs', h1, h2, h3, h4, h5⟩
  have HH : Hid (∃ v' Rs', RcAt w1 B p tasks v' Rs' ∧ Rs'.map Prod.fst = addL tasks (Rs.map Prod.fst) 3 t (er, fo, va, ps) ∧ FrR w w1 p v ∧ Nw w v v' ∧ NwP w Rs Rs') := ⟨v', Rs', h1, h2, (FrR.of_below HB.out).trans h3 Nw.refl, fun k e => (h4 k e).imp id (fun e => Nat.le_trans HB.out.size e), h5.down HB.out.size⟩
  clear h1 h2 h3 h4 h5
  go_wp2
  go_ret
  exact ⟨rfl, HH.out⟩
set_option maxRecDepth 100000 in
set_option maxHeartbeats 4000000 in
theorem do_any2 (B p : Nat) (tasks : Int) (v : Value) (Rs : List RE) (w : World) (h : RcAt w B p tasks v Rs) (hB : B ≤ w.heap.size) (h6 : tasks ≤ 6) (wh t er : Int) (fo : Bool) (va : ByteArray) (ps : List Pr) (A : Option Addr) (n c : Nat) (hp : ∀ W, FrR w W p v → PO W (A, n, c) ps) (hn : n ≤ 100000) (hl : Rs.length ≤ 100000) :
    Calls Try.prog 23 #[.agg #[.int .u8 wh, .int .i64 t, .int .i64 er, .bool fo, .string va, .slice A n c], .pointer (some ⟨p, 0, none⟩)] w (AdEnd2 B p tasks v Rs (doW wh) t (doA wh (er, fo, va, ps)) w) := by
  have hb : Below w.heap.size w (w.alloc (.cells #[.int .u8 wh, .int .i64 t, .int .i64 er, .bool fo, .string va, .slice A n c] 50)) := (Below.refl _ _).alloc (Nat.le_refl _) _
  have HB := Lib.hid hb
  have h1 := h.later hb
  have hB1 := Nat.le_trans hB hb.size
  by_cases e1 : wh = 1
  · have q1 : doW wh = 1 := if_pos e1
    have q2 : doA wh (er, fo, va, ps) = an0 := if_pos (.inl e1)
    rw [q1, q2]
    have HA := Lib.hid (invoke_any2 B p tasks v Rs _ h1 hB1 h6 t hl)
    have d1 : (wh == 1) = true := by simp [e1]
    clear h h1 hb hp q1 q2 e1
    go_enter Try.func23, Try.ntmps23
    go_wp2_with fail
    refine (HA.out).mono ?_
    rintro e w2 ⟨rfl, hh⟩
    have HH := Lib.hid hh
    clear hh
    go_wp2
    go_ret
    exact AdEnd2.from HB.out ⟨rfl, HH.out⟩
  by_cases e2 : wh = 2
  · have q1 : doW wh = 2 := by unfold doW; rw [if_neg e1, if_pos e2]
    have q2 : doA wh (er, fo, va, ps) = an0 := if_pos (.inr e2)
    rw [q1, q2]
    have HA := Lib.hid (mark_any2 B p tasks v Rs _ h1 hB1 h6 t hl)
    have d1 : (wh == 1) = false := by simp [e1]
    have d2 : (wh == 2) = true := by simp [e2]
    clear h h1 hb hp q1 q2 e1 e2
    go_enter Try.func23, Try.ntmps23
    go_wp2_with fail
    refine (HA.out).mono ?_
    rintro e w2 ⟨rfl, hh⟩
    have HH := Lib.hid hh
    clear hh
    go_wp2
    go_ret
    exact AdEnd2.from HB.out ⟨rfl, HH.out⟩
  have q1 : doW wh = 3 := by unfold doW; rw [if_neg e1, if_neg e2]
  have q2 : doA wh (er, fo, va, ps) = (er, fo, va, ps) := if_neg (by rintro (h | h) <;> contradiction)
  rw [q1, q2]
  have HA := Lib.hid (return_any2 B p tasks v Rs _ h1 hB1 h6 t er fo va ps A n c (fun W hf => hp W ((FrR.of_below hb).trans hf Nw.refl)) hn hl)
  have d1 : (wh == 1) = false := by simp [e1]
  have d2 : (wh == 2) = false := by simp [e2]
  clear h h1 hb hp q1 q2 e1 e2
  go_enter Try.func23, Try.ntmps23
  go_wp2_with fail
  refine (HA.out).mono ?_
  rintro e w2 ⟨rfl, hh⟩
  have HH := Lib.hid hh
  clear hh
  go_wp2
  go_ret
  exact AdEnd2.from HB.out ⟨rfl, HH.out⟩
end Go.Proofs.Ytgbcncfgpdlmiaa
