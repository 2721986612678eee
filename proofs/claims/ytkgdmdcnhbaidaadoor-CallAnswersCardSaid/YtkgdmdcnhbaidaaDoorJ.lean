/- Clean. -/
import Derived.Test.YtkgdmdcnhbaidaaDoorQ4
import Derived.Laws.CopyOwn
namespace Go.Proofs.YtkgdmdcnhbaidaaDoor
open Go.ChangeShapes Go.WideShapes Go.ChangeAt Go.RowKit
set_option linter.unusedVariables false
set_option linter.unusedSimpArgs false

def lClq : List Nat := [0, 1, 3, 4, 5]
def lCl (i j k l : Nat) : Array Bool := (Array.range 10).map fun o => lClq.contains o || (o == 2 && decide (1 ≤ i)) || (o == 6 && decide (1 ≤ j)) || (o == 7 && decide (1 ≤ k))
def pCl (i : Nat) : Nat := 2
def qCl (i : Nat) : Nat := 6
def rCl (i : Nat) : Nat := 7
def tCl (_ : Nat) : Nat := 0
/-- a call without what its Kind does not name -/
def clnN (n : Nm) (x : Cl) : Cl := (x.1, if n.1 then x.2.1 else 0, if n.2.1 then x.2.2.1 else emp, if n.2.2.1 then x.2.2.2.1 else emp, if n.2.2.2.1 then x.2.2.2.2.1 else emp, if n.2.2.2.2.1 then x.2.2.2.2.2.1 else 0, if n.2.2.2.2.2 then x.2.2.2.2.2.2 else 0)
def clnC (x : Cl) : Cl := clnN (nmK x.1) x
theorem nm_cases (k : Nat) : nmK k = nm0 ∨ nmK k = (true, true, false, false, false, false) ∨ nmK k = (true, true, false, true, false, false) ∨ nmK k = (true, true, true, false, true, false) ∨ nmK k = (true, false, false, false, false, false) ∨ nmK k = (false, false, false, false, false, true) := by
  unfold nmK
  split <;> simp
abbrev SC (w1 : World) (px k : Nat) (W : World) : Prop := Below w1.heap.size w1 W ∧ W.cell? ⟨px, 0, none⟩ = some (.int .u8 (k : Int))
theorem SC.later {w1 W W' : World} {px k : Nat} (h : SC w1 px k W) (hp : px < w1.heap.size) (hb : Below W.heap.size W W') : SC w1 px k W' := ⟨stepB h.1 hb, (hb.cell (p := ⟨px, 0, none⟩) (Nat.lt_of_lt_of_le hp h.1.size)).trans h.2⟩
theorem SC.row {w1 W : World} {px k q : Nat} {c : Array Value} (h : SC w1 px k W) (hp : px < w1.heap.size) (hq : w1.heap.size ≤ q) : SC w1 px k (W.setRow q c) := ⟨below_setRow h.1 hq c, (cell_setRow_other W q c ⟨px, 0, none⟩ (show px ≠ q by omega)).trans h.2⟩
/-- behind the first region -/
structure CW (w1 W : World) (pn pl : Nat) (n : Array Value) (C : Array Value) : Prop where
  lo : Below w1.heap.size w1 W
  bn : Blk W pn n 72
  bl : Blk W pl C 24
  h1 : w1.heap.size ≤ pn
  h2 : w1.heap.size ≤ pl
theorem CW.store {w1 W : World} {pn pl : Nat} {n C : Array Value} (h : CW w1 W pn pl n C) (j : Nat) (v : Value) : CW w1 (W.setCell ⟨pl, j, none⟩ v) pn pl n (C.setIfInBounds j v) :=
  ⟨h.lo.setCell (p := ⟨pl, j, none⟩) h.h2 v, h.bn.other (h.bn.ne h.bl (by decide)) v, h.bl.set v, h.h1, h.h2⟩
set_option maxRecDepth 100000 in
set_option maxHeartbeats 16000000 in
theorem clean_any (k : Nat) (tx : Int) (ke en va : ByteArray) (li : Int) (eg : Nat) (w : World) (hk : k ≤ 255) (hg : Gl w) : Calls Tryd.prog 14 #[clV (k, tx, ke, en, va, li, eg)] w fun e w' => e = .returned (clV (clnC (k, tx, ke, en, va, li, eg))) ∧ Below w.heap.size w w' := by
  show Calls Tryd.prog 14 #[.agg #[.int .u8 (k : Int), .int .i64 tx, .string ke, .string en, .string va, .int .i64 li, .int .u8 (eg : Int)]] w _
  have HB0 : Hid (Below w.heap.size w (w.alloc (.cells #[.int .u8 (k : Int), .int .i64 tx, .string ke, .string en, .string va, .int .i64 li, .int .u8 (eg : Int)] 24))) := (Below.refl _ _).alloc (Nat.le_refl _) _
  have hb1 : Below (w.alloc (.cells #[.int .u8 (k : Int), .int .i64 tx, .string ke, .string en, .string va, .int .i64 li, .int .u8 (eg : Int)] 24)).heap.size (w.alloc (.cells #[.int .u8 (k : Int), .int .i64 tx, .string ke, .string en, .string va, .int .i64 li, .int .u8 (eg : Int)] 24)) ((w.alloc (.cells #[.int .u8 (k : Int), .int .i64 tx, .string ke, .string en, .string va, .int .i64 li, .int .u8 (eg : Int)] 24)).alloc (.cells #[.int .u8 0, .int .i64 0, .string { data := #[] }, .string { data := #[] }, .string { data := #[] }, .int .i64 0, .int .u8 0] 24)) := (Below.refl _ _).alloc (Nat.le_refl _) _
  have HX : Hid (Blk ((w.alloc (.cells #[.int .u8 (k : Int), .int .i64 tx, .string ke, .string en, .string va, .int .i64 li, .int .u8 (eg : Int)] 24)).alloc (.cells #[.int .u8 0, .int .i64 0, .string { data := #[] }, .string { data := #[] }, .string { data := #[] }, .int .i64 0, .int .u8 0] 24)) w.heap.size #[.int .u8 (k : Int), .int .i64 tx, .string ke, .string en, .string va, .int .i64 li, .int .u8 (eg : Int)] 24) := (Blk.new _ _ _).later hb1
  have HO : Hid (Blk ((w.alloc (.cells #[.int .u8 (k : Int), .int .i64 tx, .string ke, .string en, .string va, .int .i64 li, .int .u8 (eg : Int)] 24)).alloc (.cells #[.int .u8 0, .int .i64 0, .string { data := #[] }, .string { data := #[] }, .string { data := #[] }, .int .i64 0, .int .u8 0] 24)) (w.alloc (.cells #[.int .u8 (k : Int), .int .i64 tx, .string ke, .string en, .string va, .int .i64 li, .int .u8 (eg : Int)] 24)).heap.size #[.int .u8 0, .int .i64 0, .string { data := #[] }, .string { data := #[] }, .string { data := #[] }, .int .i64 0, .int .u8 0] 24) := Blk.new _ _ _
  have HB1 := Lib.hid (stepB HB0.out hb1)
  have HG := Lib.hid (hg.later HB1.out)
  have HS : Hid ((w.alloc (.cells #[.int .u8 (k : Int), .int .i64 tx, .string ke, .string en, .string va, .int .i64 li, .int .u8 (eg : Int)] 24)).heap.size = w.heap.size + 1) := Array.size_push _
  have hbt : Tryd.prog.built 24 [] = some #[.int .u8 0, .int .i64 0, .string { data := #[] }, .string { data := #[] }, .string { data := #[] }, .int .i64 0, .int .u8 0] := by kernel_rfl
  clear hg hb1 HB0
  go_enter Tryd.func14, Tryd.ntmps14
  go_upto_region 1 with (fail)
  generalize (w.alloc (.cells #[.int .u8 (k : Int), .int .i64 tx, .string ke, .string en, .string va, .int .i64 li, .int .u8 (eg : Int)] 24)).alloc (.cells #[.int .u8 0, .int .i64 0, .string { data := #[] }, .string { data := #[] }, .string { data := #[] }, .int .i64 0, .int .u8 0] 24) = w1 at *
  rw [HS.out] at HO
  clear HS
  obtain ⟨px, hpx⟩ : ∃ x, w.heap.size = x := ⟨_, rfl⟩
  have HPX := Lib.hid hpx
  rw [hpx] at HX HO ⊢
  clear hpx
  obtain ⟨po, hpo⟩ : ∃ x, px + 1 = x := ⟨_, rfl⟩
  have HPO := Lib.hid hpo
  rw [hpo] at HO ⊢
  clear hpo
  obtain ⟨nm, hnm⟩ : ∃ nm, nmK k = nm := ⟨_, rfl⟩
  have HOF : Hid (∀ W, SC w1 px k W → Calls Tryd.prog 33 #[.int .u8 (k : Int)] W fun e w' => e = .returned (.agg #[.bool nm.1, .bool nm.2.1, .bool nm.2.2.1, .bool nm.2.2.2.1, .bool nm.2.2.2.2.1, .bool nm.2.2.2.2.2]) ∧ Below W.heap.size W w') := Lib.hid (fun W h => by
    have h2 := of_any k W (by omega) (HG.out.later h.1)
    rw [hnm] at h2
    exact h2)
  have HNM := Lib.hid hnm
  have HPL : Hid (px < w1.heap.size) := HX.out.lt
  have K0 : Hid (SC w1 px k w1.drew) := ⟨Below.drew (Below.refl _ _), by show w1.cell? _ = _; exact (HX.out.cell 0)⟩
  clear hnm
  obtain ⟨n0, n1, n2, n3, n4, n5⟩ := nm
  simp only at HOF
  go_cut [3, 4] (fun s3 s4 wx => ∃ pn pl, s3 = .pointer (some ⟨pn, 0, none⟩) ∧ s4 = .pointer (some ⟨pl, 0, none⟩) ∧ CW w1 wx pn pl #[.bool n0, .bool n1, .bool n2, .bool n3, .bool n4, .bool n5] #[.int .u8 (k : Int), .int .i64 0, .string { data := #[] }, .string { data := #[] }, .string { data := #[] }, .int .i64 0, .int .u8 0])
  case first =>
    refine wp_region_noPanic ?_
    refine wp_region_held_drew (S := SC w1 px k) (by kernel_rfl) K0.out (fun hHeld => ?_)
    refine wpAnyH_take (i := 0) (oi := { dst := some 5, op := Op.fieldAddr 24 (Operand.tmp 1) 0, type := 0, pos := "call.go:108", after := #[], guard := none }) (v := ?_) rfl (by kernel_rfl) (by kernel_rfl) (by kernel_rfl) (fun _ _ _ h => h) (Or.inl ⟨by rfl, ?_⟩) (by assumption) ?_
    rotate_left
    · intro W hSw
      obtain ⟨_, k0⟩ := hSw
      go_simp
      try with_reducible rfl
    simp only [Act.put, List.setIfInBounds_toArray, List.set_cons_zero, List.set_cons_succ]
    refine wpAnyH_take (i := 1) (oi := { dst := some 6, op := Op.load 5 (Operand.tmp 5), type := 5, pos := "call.go:108", after := #[{ on := 0, ground := Ground.data }], guard := none }) (v := ?_) rfl (by kernel_rfl) (by kernel_rfl) (by kernel_rfl) (fun _ _ _ h => h) (Or.inl ⟨by rfl, ?_⟩) (by assumption) ?_
    rotate_left
    · intro W hSw
      obtain ⟨_, k0⟩ := hSw
      go_simp
      try with_reducible rfl
    simp only [Act.put, List.setIfInBounds_toArray, List.set_cons_zero, List.set_cons_succ]
    refine wpAnyH_take (i := 3) (oi := { dst := some 8, op := Op.fieldAddr 24 (Operand.tmp 1) 0, type := 0, pos := "call.go:108", after := #[{ on := 8, ground := Ground.gcOnly Departure.lateStores }], guard := none }) (v := ?_) rfl (by kernel_rfl) (by kernel_rfl) (by kernel_rfl) (fun _ _ _ h => h) (Or.inl ⟨by rfl, ?_⟩) (by assumption) ?_
    rotate_left
    · intro W hSw
      obtain ⟨_, k0⟩ := hSw
      go_simp
      try with_reducible rfl
    simp only [Act.put, List.setIfInBounds_toArray, List.set_cons_zero, List.set_cons_succ]
    refine wpAnyH_take (i := 4) (oi := { dst := some 9, op := Op.load 5 (Operand.tmp 8), type := 5, pos := "call.go:108", after := #[{ on := 3, ground := Ground.data }, { on := 8, ground := Ground.gcOnly Departure.lateStores }], guard := none }) (v := ?_) rfl (by kernel_rfl) (by kernel_rfl) (by kernel_rfl) (fun _ _ _ h => h) (Or.inl ⟨by rfl, ?_⟩) (by assumption) ?_
    rotate_left
    · intro W hSw
      obtain ⟨_, k0⟩ := hSw
      go_simp
      try with_reducible rfl
    simp only [Act.put, List.setIfInBounds_toArray, List.set_cons_zero, List.set_cons_succ]
    refine wpAnyH_take (i := 5) (oi := { dst := some 10, op := Op.build 24 #[(0, Operand.tmp 9)], type := 24, pos := "call.go:108", after := #[{ on := 4, ground := Ground.data }, { on := 8, ground := Ground.gcOnly Departure.lateStores }], guard := none }) (v := ?_) rfl (by kernel_rfl) (by kernel_rfl) (by kernel_rfl) (fun _ _ _ h => h) (Or.inl ⟨by rfl, ?_⟩) (by assumption) ?_
    rotate_left
    · intro W hSw
      obtain ⟨_, k0⟩ := hSw
      go_simp
      try with_reducible rfl
    simp only [Act.put, List.setIfInBounds_toArray, List.set_cons_zero, List.set_cons_succ]
    refine wpAnyH_cast (f := 5) (l := lCl 0 0 0 0) (by kernel_rfl) (by kernel_rfl) ?_
    refine chains4 1 1 1 0 2 pCl qCl rCl tCl (fun _ _ _ _ => true) lCl (fun i j kk _ x W => ∃ v3 v4 v7 : Value, x = ({ tmps := #[.agg #[.int .u8 (k : Int), .int .i64 tx, .string ke, .string en, .string va, .int .i64 li, .int .u8 (eg : Int)], .pointer (some ⟨px, 0, none⟩), .pointer (some ⟨po, 0, none⟩), v3, v4, .pointer (some ⟨px, 0, none⟩), .int .u8 (k : Int), v7, .pointer (some ⟨px, 0, none⟩), .int .u8 (k : Int), .agg #[.int .u8 (k : Int), .int .i64 0, .string { data := #[] }, .string { data := #[] }, .string { data := #[] }, .int .i64 0, .int .u8 0], undef, undef, undef, undef, undef, undef, undef, undef, undef, undef, undef, undef, undef, undef, undef, undef, undef, undef, undef, undef, undef, undef, undef, undef, undef, undef, undef, undef, undef, undef, undef], defers := [] } : Act) ∧ w1.heap.size ≤ W.heap.size ∧ Cv (.agg #[.bool n0, .bool n1, .bool n2, .bool n3, .bool n4, .bool n5]) i v7 ∧ Cb w1.heap.size #[.bool false, .bool false, .bool false, .bool false, .bool false, .bool false] 72 j v3 W ∧ Cb w1.heap.size #[.int .u8 0, .int .i64 0, .string { data := #[] }, .string { data := #[] }, .string { data := #[] }, .int .i64 0, .int .u8 0] 24 kk v4 W) (by decide +kernel) (by decide +kernel) (by decide +kernel) (by decide +kernel) (by decide +kernel) ?s1 ?s2 ?s3 ?s4 ?fin 3 0 0 0 0 _ _ (by omega) (by omega) (by omega) (by omega) rfl rfl ⟨undef, undef, undef, rfl, by first | exact Nat.le_refl _ | simp, rfl, rfl, rfl⟩ hHeld
    case s1 =>
      intro i j kk l x W hi hj hkk hl hok hI hS
      have hi0 : i = 0 := by omega
      subst hi0
      obtain ⟨v3, v4, v7, rfl, hw, hc1, c2, c3⟩ := hI
      have hv7 : v7 = undef := hc1
      subst hv7
      show wpOp _ _ _ 2 _ _ _
      refine wpOp_step (o := { dst := some 7, op := Op.call { callee := Callee.value (Operand.func 33), args := #[Operand.tmp 6], argTypes := #[5] }, type := 72, pos := "call.go:108", after := #[{ on := 1, ground := Ground.data }], guard := none }) rfl (fun K' hK => ?_)
      have HK := Lib.hid hK
      have HS3 := Lib.hid hS
      have HW := Lib.hid hw
      have C2 := Lib.hid c2
      have C3 := Lib.hid c3
      have HC := Lib.hid (HOF.out W hS)
      clear hK hS hw hc1 c2 c3
      go_simp
      refine HC.out.mono ?_
      rintro e W2 ⟨rfl, hb⟩
      refine HK.out _ _ ⟨HS3.out.later HPL.out hb, ?_⟩
      exact ⟨v3, v4, _, rfl, Nat.le_trans HW.out hb.size, rfl, C2.out.later hb, C3.out.later hb⟩
    case s2 =>
      intro i j kk l x W hi hj hkk hl hok hI hS
      have hj0 : j = 0 := by omega
      subst hj0
      obtain ⟨v3, v4, v7, rfl, hw, c1, hc2, c3⟩ := hI
      have hv3 : v3 = undef := hc2
      subst hv3
      show wpOp _ _ _ 6 _ _ _
      refine wpOp_step (o := { dst := some 3, op := Op.alloc 72, type := 0, pos := "call.go:108", after := #[], guard := none }) rfl (fun K' hK => ?_)
      have HK := Lib.hid hK
      have HS3 := Lib.hid hS
      have HW := Lib.hid hw
      have C1 := Lib.hid c1
      have C3 := Lib.hid c3
      clear hK hS hw c1 hc2 c3
      go_simp
      have hby : Below W.heap.size W (W.alloc (.cells #[.bool false, .bool false, .bool false, .bool false, .bool false, .bool false] 72)) := (Below.refl _ _).alloc (Nat.le_refl _) _
      refine HK.out _ _ ⟨HS3.out.later HPL.out hby, ?_⟩
      exact ⟨_, v4, v7, rfl, Nat.le_trans HW.out hby.size, C1.out, ⟨W.heap.size, rfl, HW.out, Blk.new _ _ _⟩, C3.out.later hby⟩
    case s3 =>
      intro i j kk l x W hi hj hkk hl hok hI hS
      have hk0 : kk = 0 := by omega
      subst hk0
      obtain ⟨v3, v4, v7, rfl, hw, c1, c2, hc3⟩ := hI
      have hv4 : v4 = undef := hc3
      subst hv4
      show wpOp _ _ _ 7 _ _ _
      refine wpOp_step (o := { dst := some 4, op := Op.alloc 24, type := 0, pos := "call.go:108", after := #[], guard := none }) rfl (fun K' hK => ?_)
      have HK := Lib.hid hK
      have HS3 := Lib.hid hS
      have HW := Lib.hid hw
      have C1 := Lib.hid c1
      have C2 := Lib.hid c2
      clear hK hS hw c1 hc3 c2
      go_simp
      have hby : Below W.heap.size W (W.alloc (.cells #[.int .u8 0, .int .i64 0, .string { data := #[] }, .string { data := #[] }, .string { data := #[] }, .int .i64 0, .int .u8 0] 24)) := (Below.refl _ _).alloc (Nat.le_refl _) _
      refine HK.out _ _ ⟨HS3.out.later HPL.out hby, ?_⟩
      exact ⟨v3, _, v7, rfl, Nat.le_trans HW.out hby.size, C1.out, C2.out.later hby, ⟨W.heap.size, rfl, HW.out, Blk.new _ _ _⟩⟩
    case s4 =>
      intro i j kk l x W hi hj hkk hl hok hI hS
      omega
    case fin =>
      intro x W hI hS
      obtain ⟨v3, v4, v7, rfl, hw, c1, ⟨pn, rfl, hpn, bn⟩, ⟨pl, rfl, hpl, bl⟩⟩ := hI
      have hv7 : v7 = .agg #[.bool n0, .bool n1, .bool n2, .bool n3, .bool n4, .bool n5] := c1
      subst hv7
      have hne := bn.ne bl (by decide)
      have BN := Lib.hid bn
      have BL := Lib.hid bl
      have HPN := Lib.hid hpn
      have HPLL := Lib.hid hpl
      have HNE := Lib.hid hne
      have HSA := Lib.hid hS
      clear c1 bn bl hw hpn hpl hne hS hHeld
      refine wpAnyH_ready (rs := [8]) (by kernel_rfl) (by simp) (AllReadyH.cons (o := { dst := none, op := Op.store 72 (Operand.tmp 3) (Operand.tmp 7), type := 0, pos := "call.go:108", after := #[{ on := 6, ground := Ground.data }, { on := 2, ground := Ground.data }, { on := 2, ground := Ground.chain }, { on := 0, ground := Ground.phase }, { on := 1, ground := Ground.phase }, { on := 2, ground := Ground.phase }, { on := 3, ground := Ground.textOnly Departure.lateStores }, { on := 4, ground := Ground.textOnly Departure.lateStores }, { on := 5, ground := Ground.textOnly Departure.lateStores }, { on := 6, ground := Ground.phase }, { on := 7, ground := Ground.phase }], guard := none }) rfl (fun K hK => ?_) AllReadyH.nil)
      refine wp_store_row 72 (.tmp 3) (.tmp 7) rfl pn #[.bool n0, .bool n1, .bool n2, .bool n3, .bool n4, .bool n5] rfl rfl 72 #[.bool false, .bool false, .bool false, .bool false, .bool false, .bool false] BN.out (by kernel_rfl) rfl (by first | rfl | (simp [Value.oneCell']; done)) ?_
      refine hK.out _ _ (HSA.out.row HPL.out HPN.out) (fun hH2 => ?_)
      clear hK K
      refine wpAnyH_ready (rs := [9]) (by kernel_rfl) (by simp) (AllReadyH.cons (o := { dst := none, op := Op.store 24 (Operand.tmp 4) (Operand.tmp 10), type := 0, pos := "call.go:108", after := #[{ on := 7, ground := Ground.data }, { on := 5, ground := Ground.data }, { on := 8, ground := Ground.chain }, { on := 0, ground := Ground.phase }, { on := 1, ground := Ground.phase }, { on := 2, ground := Ground.phase }, { on := 3, ground := Ground.phase }, { on := 4, ground := Ground.phase }, { on := 5, ground := Ground.phase }, { on := 6, ground := Ground.phase }, { on := 7, ground := Ground.phase }, { on := 8, ground := Ground.phase }], guard := none }) rfl (fun K hK => ?_) AllReadyH.nil)
      refine wp_store_row 24 (.tmp 4) (.tmp 10) rfl pl #[.int .u8 (k : Int), .int .i64 0, .string { data := #[] }, .string { data := #[] }, .string { data := #[] }, .int .i64 0, .int .u8 0] rfl rfl 24 #[.int .u8 0, .int .i64 0, .string { data := #[] }, .string { data := #[] }, .string { data := #[] }, .int .i64 0, .int .u8 0] (BL.out.setRow HNE.out.symm) (by kernel_rfl) rfl (by first | rfl | (simp [Value.oneCell']; done)) ?_
      refine hK.out _ _ (hH2.row HPL.out HPLL.out) (fun hH3 => ?_)
      clear hK K
      refine wpAnyH_done (by kernel_rfl) (NoPanic.normal ?_) _
      go_wp2
      go_meet
      exact ⟨pn, pl, rfl, rfl, ⟨hH3.1, (BN.out.setRow_self).setRow HNE.out, (BL.out.setRow HNE.out.symm).setRow_self, HPN.out, HPLL.out⟩⟩
  case rest =>
    obtain ⟨pn, pl, rfl, rfl, hc⟩ := hcut
    obtain ⟨W0, rfl⟩ : ∃ W0 : World, W0 = wc := ⟨_, rfl⟩
    have HC := Lib.hid hc
    clear hc K0 HOF
    have hcs := nm_cases k
    rw [HNM.out] at hcs
    unfold nm0 at hcs
    simp only [Prod.mk.injEq] at hcs
    have K0 : Hid True := trivial
    have HOF : Hid True := trivial
    rcases hcs with ⟨rfl, rfl, rfl, rfl, rfl, rfl⟩ | ⟨rfl, rfl, rfl, rfl, rfl, rfl⟩ | ⟨rfl, rfl, rfl, rfl, rfl, rfl⟩ | ⟨rfl, rfl, rfl, rfl, rfl, rfl⟩ | ⟨rfl, rfl, rfl, rfl, rfl, rfl⟩ | ⟨rfl, rfl, rfl, rfl, rfl, rfl⟩
    · have HE : Hid (clnC (k, tx, ke, en, va, li, eg) = clnN (false, false, false, false, false, false) (k, tx, ke, en, va, li, eg)) := Lib.hid (by unfold clnC; rw [show nmK (k, tx, ke, en, va, li, eg).1 = _ from HNM.out])
      have a0 := HC.out.bn.cell 0
      have a1 := HC.out.bn.cell 1
      have a2 := HC.out.bn.cell 2
      have a3 := HC.out.bn.cell 3
      have a4 := HC.out.bn.cell 4
      have a5 := HC.out.bn.cell 5
      have b0 := HC.out.bl.cell 0
      have c0 := (HX.out.later HC.out.lo).cell 0
      have b1 := HC.out.bl.cell 1
      have c1 := (HX.out.later HC.out.lo).cell 1
      have b2 := HC.out.bl.cell 2
      have c2 := (HX.out.later HC.out.lo).cell 2
      have b3 := HC.out.bl.cell 3
      have c3 := (HX.out.later HC.out.lo).cell 3
      have b4 := HC.out.bl.cell 4
      have c4 := (HX.out.later HC.out.lo).cell 4
      have b5 := HC.out.bl.cell 5
      have c5 := (HX.out.later HC.out.lo).cell 5
      have b6 := HC.out.bl.cell 6
      have c6 := (HX.out.later HC.out.lo).cell 6
      simp only [List.getElem?_toArray, List.getElem?_cons_zero, List.getElem?_cons_succ] at a0 a1 a2 a3 a4 a5 b0 c0 b1 c1 b2 c2 b3 c3 b4 c4 b5 c5 b6 c6
      have o0 := (HO.out.later HC.out.lo).cell 0
      have f0 := (HO.out.later HC.out.lo).frozen 0
      have o1 := (HO.out.later HC.out.lo).cell 1
      have f1 := (HO.out.later HC.out.lo).frozen 1
      have o2 := (HO.out.later HC.out.lo).cell 2
      have f2 := (HO.out.later HC.out.lo).frozen 2
      have o3 := (HO.out.later HC.out.lo).cell 3
      have f3 := (HO.out.later HC.out.lo).frozen 3
      have o4 := (HO.out.later HC.out.lo).cell 4
      have f4 := (HO.out.later HC.out.lo).frozen 4
      have o5 := (HO.out.later HC.out.lo).cell 5
      have f5 := (HO.out.later HC.out.lo).frozen 5
      have o6 := (HO.out.later HC.out.lo).cell 6
      have f6 := (HO.out.later HC.out.lo).frozen 6
      simp only [List.getElem?_toArray, List.getElem?_cons_zero, List.getElem?_cons_succ] at o0 o1 o2 o3 o4 o5 o6
      have HBW : Hid (Below w.heap.size w W0) := Lib.hid (stepB HB1.out HC.out.lo)
      have HPW : Hid (w.heap.size ≤ po) := Lib.hid (by have h1 := HPX.out; have h2 := HPO.out; omega)
      have HS7 := Lib.hid (set7 (HO.out.later HC.out.lo) rfl (.int .u8 (k : Int)) (.int .i64 0) (.string { data := #[] }) (.string { data := #[] }) (.string { data := #[] }) (.int .i64 0) (.int .u8 0) HBW.out HPW.out)
      clear HOF HNM K0 HG HPL HX HO HBW HPW HPX HPO HB1
      go_wp2
      refine bodyPost_ret (results_cell_row rfl _ _ po 24 _ (0, 0) _ rfl HS7.out.1 Tryd.underlying24 rfl (by kernel_rfl)) rfl ?_
      exact ⟨by rw [HE.out]; rfl, HS7.out.2⟩
    · have HE : Hid (clnC (k, tx, ke, en, va, li, eg) = clnN (true, true, false, false, false, false) (k, tx, ke, en, va, li, eg)) := Lib.hid (by unfold clnC; rw [show nmK (k, tx, ke, en, va, li, eg).1 = _ from HNM.out])
      have a0 := HC.out.bn.cell 0
      have a1 := HC.out.bn.cell 1
      have a2 := HC.out.bn.cell 2
      have a3 := HC.out.bn.cell 3
      have a4 := HC.out.bn.cell 4
      have a5 := HC.out.bn.cell 5
      have b0 := HC.out.bl.cell 0
      have c0 := (HX.out.later HC.out.lo).cell 0
      have b1 := HC.out.bl.cell 1
      have c1 := (HX.out.later HC.out.lo).cell 1
      have b2 := HC.out.bl.cell 2
      have c2 := (HX.out.later HC.out.lo).cell 2
      have b3 := HC.out.bl.cell 3
      have c3 := (HX.out.later HC.out.lo).cell 3
      have b4 := HC.out.bl.cell 4
      have c4 := (HX.out.later HC.out.lo).cell 4
      have b5 := HC.out.bl.cell 5
      have c5 := (HX.out.later HC.out.lo).cell 5
      have b6 := HC.out.bl.cell 6
      have c6 := (HX.out.later HC.out.lo).cell 6
      simp only [List.getElem?_toArray, List.getElem?_cons_zero, List.getElem?_cons_succ] at a0 a1 a2 a3 a4 a5 b0 c0 b1 c1 b2 c2 b3 c3 b4 c4 b5 c5 b6 c6
      have f0 := HC.out.bl.frozen 1
      go_upto_region 4 with (fail)
      clear a0 a1 a2 a3 a4 a5 b0 c0 b1 c1 b2 c2 b3 c3 b4 c4 b5 c5 b6 c6 f0
      replace HC : Hid (CW w1 (W0.setCell ⟨pl, 1, none⟩ (.int .i64 tx)) pn pl #[.bool true, .bool true, .bool false, .bool false, .bool false, .bool false] #[.int .u8 (k : Int), .int .i64 tx, .string { data := #[] }, .string { data := #[] }, .string { data := #[] }, .int .i64 0, .int .u8 0]) := HC.out.store 1 (.int .i64 tx)
      generalize W0.setCell ⟨pl, 1, none⟩ (.int .i64 tx) = W1 at *
      have a0 := HC.out.bn.cell 0
      have a1 := HC.out.bn.cell 1
      have a2 := HC.out.bn.cell 2
      have a3 := HC.out.bn.cell 3
      have a4 := HC.out.bn.cell 4
      have a5 := HC.out.bn.cell 5
      have b0 := HC.out.bl.cell 0
      have c0 := (HX.out.later HC.out.lo).cell 0
      have b1 := HC.out.bl.cell 1
      have c1 := (HX.out.later HC.out.lo).cell 1
      have b2 := HC.out.bl.cell 2
      have c2 := (HX.out.later HC.out.lo).cell 2
      have b3 := HC.out.bl.cell 3
      have c3 := (HX.out.later HC.out.lo).cell 3
      have b4 := HC.out.bl.cell 4
      have c4 := (HX.out.later HC.out.lo).cell 4
      have b5 := HC.out.bl.cell 5
      have c5 := (HX.out.later HC.out.lo).cell 5
      have b6 := HC.out.bl.cell 6
      have c6 := (HX.out.later HC.out.lo).cell 6
      simp only [List.getElem?_toArray, List.getElem?_cons_zero, List.getElem?_cons_succ] at a0 a1 a2 a3 a4 a5 b0 c0 b1 c1 b2 c2 b3 c3 b4 c4 b5 c5 b6 c6
      have f0 := HC.out.bl.frozen 2
      go_upto_region 6 with (fail)
      clear a0 a1 a2 a3 a4 a5 b0 c0 b1 c1 b2 c2 b3 c3 b4 c4 b5 c5 b6 c6 f0
      replace HC : Hid (CW w1 (W1.setCell ⟨pl, 2, none⟩ (.string ke)) pn pl #[.bool true, .bool true, .bool false, .bool false, .bool false, .bool false] #[.int .u8 (k : Int), .int .i64 tx, .string ke, .string { data := #[] }, .string { data := #[] }, .int .i64 0, .int .u8 0]) := HC.out.store 2 (.string ke)
      generalize W1.setCell ⟨pl, 2, none⟩ (.string ke) = W2 at *
      have a0 := HC.out.bn.cell 0
      have a1 := HC.out.bn.cell 1
      have a2 := HC.out.bn.cell 2
      have a3 := HC.out.bn.cell 3
      have a4 := HC.out.bn.cell 4
      have a5 := HC.out.bn.cell 5
      have b0 := HC.out.bl.cell 0
      have c0 := (HX.out.later HC.out.lo).cell 0
      have b1 := HC.out.bl.cell 1
      have c1 := (HX.out.later HC.out.lo).cell 1
      have b2 := HC.out.bl.cell 2
      have c2 := (HX.out.later HC.out.lo).cell 2
      have b3 := HC.out.bl.cell 3
      have c3 := (HX.out.later HC.out.lo).cell 3
      have b4 := HC.out.bl.cell 4
      have c4 := (HX.out.later HC.out.lo).cell 4
      have b5 := HC.out.bl.cell 5
      have c5 := (HX.out.later HC.out.lo).cell 5
      have b6 := HC.out.bl.cell 6
      have c6 := (HX.out.later HC.out.lo).cell 6
      simp only [List.getElem?_toArray, List.getElem?_cons_zero, List.getElem?_cons_succ] at a0 a1 a2 a3 a4 a5 b0 c0 b1 c1 b2 c2 b3 c3 b4 c4 b5 c5 b6 c6
      have o0 := (HO.out.later HC.out.lo).cell 0
      have f0 := (HO.out.later HC.out.lo).frozen 0
      have o1 := (HO.out.later HC.out.lo).cell 1
      have f1 := (HO.out.later HC.out.lo).frozen 1
      have o2 := (HO.out.later HC.out.lo).cell 2
      have f2 := (HO.out.later HC.out.lo).frozen 2
      have o3 := (HO.out.later HC.out.lo).cell 3
      have f3 := (HO.out.later HC.out.lo).frozen 3
      have o4 := (HO.out.later HC.out.lo).cell 4
      have f4 := (HO.out.later HC.out.lo).frozen 4
      have o5 := (HO.out.later HC.out.lo).cell 5
      have f5 := (HO.out.later HC.out.lo).frozen 5
      have o6 := (HO.out.later HC.out.lo).cell 6
      have f6 := (HO.out.later HC.out.lo).frozen 6
      simp only [List.getElem?_toArray, List.getElem?_cons_zero, List.getElem?_cons_succ] at o0 o1 o2 o3 o4 o5 o6
      have HBW : Hid (Below w.heap.size w W2) := Lib.hid (stepB HB1.out HC.out.lo)
      have HPW : Hid (w.heap.size ≤ po) := Lib.hid (by have h1 := HPX.out; have h2 := HPO.out; omega)
      have HS7 := Lib.hid (set7 (HO.out.later HC.out.lo) rfl (.int .u8 (k : Int)) (.int .i64 tx) (.string ke) (.string { data := #[] }) (.string { data := #[] }) (.int .i64 0) (.int .u8 0) HBW.out HPW.out)
      clear HOF HNM K0 HG HPL HX HO HBW HPW HPX HPO HB1
      go_wp2
      refine bodyPost_ret (results_cell_row rfl _ _ po 24 _ (0, 0) _ rfl HS7.out.1 Tryd.underlying24 rfl (by kernel_rfl)) rfl ?_
      exact ⟨by rw [HE.out]; rfl, HS7.out.2⟩
    · have HE : Hid (clnC (k, tx, ke, en, va, li, eg) = clnN (true, true, false, true, false, false) (k, tx, ke, en, va, li, eg)) := Lib.hid (by unfold clnC; rw [show nmK (k, tx, ke, en, va, li, eg).1 = _ from HNM.out])
      have a0 := HC.out.bn.cell 0
      have a1 := HC.out.bn.cell 1
      have a2 := HC.out.bn.cell 2
      have a3 := HC.out.bn.cell 3
      have a4 := HC.out.bn.cell 4
      have a5 := HC.out.bn.cell 5
      have b0 := HC.out.bl.cell 0
      have c0 := (HX.out.later HC.out.lo).cell 0
      have b1 := HC.out.bl.cell 1
      have c1 := (HX.out.later HC.out.lo).cell 1
      have b2 := HC.out.bl.cell 2
      have c2 := (HX.out.later HC.out.lo).cell 2
      have b3 := HC.out.bl.cell 3
      have c3 := (HX.out.later HC.out.lo).cell 3
      have b4 := HC.out.bl.cell 4
      have c4 := (HX.out.later HC.out.lo).cell 4
      have b5 := HC.out.bl.cell 5
      have c5 := (HX.out.later HC.out.lo).cell 5
      have b6 := HC.out.bl.cell 6
      have c6 := (HX.out.later HC.out.lo).cell 6
      simp only [List.getElem?_toArray, List.getElem?_cons_zero, List.getElem?_cons_succ] at a0 a1 a2 a3 a4 a5 b0 c0 b1 c1 b2 c2 b3 c3 b4 c4 b5 c5 b6 c6
      have f0 := HC.out.bl.frozen 1
      go_upto_region 4 with (fail)
      clear a0 a1 a2 a3 a4 a5 b0 c0 b1 c1 b2 c2 b3 c3 b4 c4 b5 c5 b6 c6 f0
      replace HC : Hid (CW w1 (W0.setCell ⟨pl, 1, none⟩ (.int .i64 tx)) pn pl #[.bool true, .bool true, .bool false, .bool true, .bool false, .bool false] #[.int .u8 (k : Int), .int .i64 tx, .string { data := #[] }, .string { data := #[] }, .string { data := #[] }, .int .i64 0, .int .u8 0]) := HC.out.store 1 (.int .i64 tx)
      generalize W0.setCell ⟨pl, 1, none⟩ (.int .i64 tx) = W1 at *
      have a0 := HC.out.bn.cell 0
      have a1 := HC.out.bn.cell 1
      have a2 := HC.out.bn.cell 2
      have a3 := HC.out.bn.cell 3
      have a4 := HC.out.bn.cell 4
      have a5 := HC.out.bn.cell 5
      have b0 := HC.out.bl.cell 0
      have c0 := (HX.out.later HC.out.lo).cell 0
      have b1 := HC.out.bl.cell 1
      have c1 := (HX.out.later HC.out.lo).cell 1
      have b2 := HC.out.bl.cell 2
      have c2 := (HX.out.later HC.out.lo).cell 2
      have b3 := HC.out.bl.cell 3
      have c3 := (HX.out.later HC.out.lo).cell 3
      have b4 := HC.out.bl.cell 4
      have c4 := (HX.out.later HC.out.lo).cell 4
      have b5 := HC.out.bl.cell 5
      have c5 := (HX.out.later HC.out.lo).cell 5
      have b6 := HC.out.bl.cell 6
      have c6 := (HX.out.later HC.out.lo).cell 6
      simp only [List.getElem?_toArray, List.getElem?_cons_zero, List.getElem?_cons_succ] at a0 a1 a2 a3 a4 a5 b0 c0 b1 c1 b2 c2 b3 c3 b4 c4 b5 c5 b6 c6
      have f0 := HC.out.bl.frozen 2
      go_upto_region 6 with (fail)
      clear a0 a1 a2 a3 a4 a5 b0 c0 b1 c1 b2 c2 b3 c3 b4 c4 b5 c5 b6 c6 f0
      replace HC : Hid (CW w1 (W1.setCell ⟨pl, 2, none⟩ (.string ke)) pn pl #[.bool true, .bool true, .bool false, .bool true, .bool false, .bool false] #[.int .u8 (k : Int), .int .i64 tx, .string ke, .string { data := #[] }, .string { data := #[] }, .int .i64 0, .int .u8 0]) := HC.out.store 2 (.string ke)
      generalize W1.setCell ⟨pl, 2, none⟩ (.string ke) = W2 at *
      have a0 := HC.out.bn.cell 0
      have a1 := HC.out.bn.cell 1
      have a2 := HC.out.bn.cell 2
      have a3 := HC.out.bn.cell 3
      have a4 := HC.out.bn.cell 4
      have a5 := HC.out.bn.cell 5
      have b0 := HC.out.bl.cell 0
      have c0 := (HX.out.later HC.out.lo).cell 0
      have b1 := HC.out.bl.cell 1
      have c1 := (HX.out.later HC.out.lo).cell 1
      have b2 := HC.out.bl.cell 2
      have c2 := (HX.out.later HC.out.lo).cell 2
      have b3 := HC.out.bl.cell 3
      have c3 := (HX.out.later HC.out.lo).cell 3
      have b4 := HC.out.bl.cell 4
      have c4 := (HX.out.later HC.out.lo).cell 4
      have b5 := HC.out.bl.cell 5
      have c5 := (HX.out.later HC.out.lo).cell 5
      have b6 := HC.out.bl.cell 6
      have c6 := (HX.out.later HC.out.lo).cell 6
      simp only [List.getElem?_toArray, List.getElem?_cons_zero, List.getElem?_cons_succ] at a0 a1 a2 a3 a4 a5 b0 c0 b1 c1 b2 c2 b3 c3 b4 c4 b5 c5 b6 c6
      have f0 := HC.out.bl.frozen 4
      go_upto_region 10 with (fail)
      clear a0 a1 a2 a3 a4 a5 b0 c0 b1 c1 b2 c2 b3 c3 b4 c4 b5 c5 b6 c6 f0
      replace HC : Hid (CW w1 (W2.setCell ⟨pl, 4, none⟩ (.string va)) pn pl #[.bool true, .bool true, .bool false, .bool true, .bool false, .bool false] #[.int .u8 (k : Int), .int .i64 tx, .string ke, .string { data := #[] }, .string va, .int .i64 0, .int .u8 0]) := HC.out.store 4 (.string va)
      generalize W2.setCell ⟨pl, 4, none⟩ (.string va) = W3 at *
      have a0 := HC.out.bn.cell 0
      have a1 := HC.out.bn.cell 1
      have a2 := HC.out.bn.cell 2
      have a3 := HC.out.bn.cell 3
      have a4 := HC.out.bn.cell 4
      have a5 := HC.out.bn.cell 5
      have b0 := HC.out.bl.cell 0
      have c0 := (HX.out.later HC.out.lo).cell 0
      have b1 := HC.out.bl.cell 1
      have c1 := (HX.out.later HC.out.lo).cell 1
      have b2 := HC.out.bl.cell 2
      have c2 := (HX.out.later HC.out.lo).cell 2
      have b3 := HC.out.bl.cell 3
      have c3 := (HX.out.later HC.out.lo).cell 3
      have b4 := HC.out.bl.cell 4
      have c4 := (HX.out.later HC.out.lo).cell 4
      have b5 := HC.out.bl.cell 5
      have c5 := (HX.out.later HC.out.lo).cell 5
      have b6 := HC.out.bl.cell 6
      have c6 := (HX.out.later HC.out.lo).cell 6
      simp only [List.getElem?_toArray, List.getElem?_cons_zero, List.getElem?_cons_succ] at a0 a1 a2 a3 a4 a5 b0 c0 b1 c1 b2 c2 b3 c3 b4 c4 b5 c5 b6 c6
      have o0 := (HO.out.later HC.out.lo).cell 0
      have f0 := (HO.out.later HC.out.lo).frozen 0
      have o1 := (HO.out.later HC.out.lo).cell 1
      have f1 := (HO.out.later HC.out.lo).frozen 1
      have o2 := (HO.out.later HC.out.lo).cell 2
      have f2 := (HO.out.later HC.out.lo).frozen 2
      have o3 := (HO.out.later HC.out.lo).cell 3
      have f3 := (HO.out.later HC.out.lo).frozen 3
      have o4 := (HO.out.later HC.out.lo).cell 4
      have f4 := (HO.out.later HC.out.lo).frozen 4
      have o5 := (HO.out.later HC.out.lo).cell 5
      have f5 := (HO.out.later HC.out.lo).frozen 5
      have o6 := (HO.out.later HC.out.lo).cell 6
      have f6 := (HO.out.later HC.out.lo).frozen 6
      simp only [List.getElem?_toArray, List.getElem?_cons_zero, List.getElem?_cons_succ] at o0 o1 o2 o3 o4 o5 o6
      have HBW : Hid (Below w.heap.size w W3) := Lib.hid (stepB HB1.out HC.out.lo)
      have HPW : Hid (w.heap.size ≤ po) := Lib.hid (by have h1 := HPX.out; have h2 := HPO.out; omega)
      have HS7 := Lib.hid (set7 (HO.out.later HC.out.lo) rfl (.int .u8 (k : Int)) (.int .i64 tx) (.string ke) (.string { data := #[] }) (.string va) (.int .i64 0) (.int .u8 0) HBW.out HPW.out)
      clear HOF HNM K0 HG HPL HX HO HBW HPW HPX HPO HB1
      go_wp2
      refine bodyPost_ret (results_cell_row rfl _ _ po 24 _ (0, 0) _ rfl HS7.out.1 Tryd.underlying24 rfl (by kernel_rfl)) rfl ?_
      exact ⟨by rw [HE.out]; rfl, HS7.out.2⟩
    · have HE : Hid (clnC (k, tx, ke, en, va, li, eg) = clnN (true, true, true, false, true, false) (k, tx, ke, en, va, li, eg)) := Lib.hid (by unfold clnC; rw [show nmK (k, tx, ke, en, va, li, eg).1 = _ from HNM.out])
      have a0 := HC.out.bn.cell 0
      have a1 := HC.out.bn.cell 1
      have a2 := HC.out.bn.cell 2
      have a3 := HC.out.bn.cell 3
      have a4 := HC.out.bn.cell 4
      have a5 := HC.out.bn.cell 5
      have b0 := HC.out.bl.cell 0
      have c0 := (HX.out.later HC.out.lo).cell 0
      have b1 := HC.out.bl.cell 1
      have c1 := (HX.out.later HC.out.lo).cell 1
      have b2 := HC.out.bl.cell 2
      have c2 := (HX.out.later HC.out.lo).cell 2
      have b3 := HC.out.bl.cell 3
      have c3 := (HX.out.later HC.out.lo).cell 3
      have b4 := HC.out.bl.cell 4
      have c4 := (HX.out.later HC.out.lo).cell 4
      have b5 := HC.out.bl.cell 5
      have c5 := (HX.out.later HC.out.lo).cell 5
      have b6 := HC.out.bl.cell 6
      have c6 := (HX.out.later HC.out.lo).cell 6
      simp only [List.getElem?_toArray, List.getElem?_cons_zero, List.getElem?_cons_succ] at a0 a1 a2 a3 a4 a5 b0 c0 b1 c1 b2 c2 b3 c3 b4 c4 b5 c5 b6 c6
      have f0 := HC.out.bl.frozen 1
      go_upto_region 4 with (fail)
      clear a0 a1 a2 a3 a4 a5 b0 c0 b1 c1 b2 c2 b3 c3 b4 c4 b5 c5 b6 c6 f0
      replace HC : Hid (CW w1 (W0.setCell ⟨pl, 1, none⟩ (.int .i64 tx)) pn pl #[.bool true, .bool true, .bool true, .bool false, .bool true, .bool false] #[.int .u8 (k : Int), .int .i64 tx, .string { data := #[] }, .string { data := #[] }, .string { data := #[] }, .int .i64 0, .int .u8 0]) := HC.out.store 1 (.int .i64 tx)
      generalize W0.setCell ⟨pl, 1, none⟩ (.int .i64 tx) = W1 at *
      have a0 := HC.out.bn.cell 0
      have a1 := HC.out.bn.cell 1
      have a2 := HC.out.bn.cell 2
      have a3 := HC.out.bn.cell 3
      have a4 := HC.out.bn.cell 4
      have a5 := HC.out.bn.cell 5
      have b0 := HC.out.bl.cell 0
      have c0 := (HX.out.later HC.out.lo).cell 0
      have b1 := HC.out.bl.cell 1
      have c1 := (HX.out.later HC.out.lo).cell 1
      have b2 := HC.out.bl.cell 2
      have c2 := (HX.out.later HC.out.lo).cell 2
      have b3 := HC.out.bl.cell 3
      have c3 := (HX.out.later HC.out.lo).cell 3
      have b4 := HC.out.bl.cell 4
      have c4 := (HX.out.later HC.out.lo).cell 4
      have b5 := HC.out.bl.cell 5
      have c5 := (HX.out.later HC.out.lo).cell 5
      have b6 := HC.out.bl.cell 6
      have c6 := (HX.out.later HC.out.lo).cell 6
      simp only [List.getElem?_toArray, List.getElem?_cons_zero, List.getElem?_cons_succ] at a0 a1 a2 a3 a4 a5 b0 c0 b1 c1 b2 c2 b3 c3 b4 c4 b5 c5 b6 c6
      have f0 := HC.out.bl.frozen 2
      go_upto_region 6 with (fail)
      clear a0 a1 a2 a3 a4 a5 b0 c0 b1 c1 b2 c2 b3 c3 b4 c4 b5 c5 b6 c6 f0
      replace HC : Hid (CW w1 (W1.setCell ⟨pl, 2, none⟩ (.string ke)) pn pl #[.bool true, .bool true, .bool true, .bool false, .bool true, .bool false] #[.int .u8 (k : Int), .int .i64 tx, .string ke, .string { data := #[] }, .string { data := #[] }, .int .i64 0, .int .u8 0]) := HC.out.store 2 (.string ke)
      generalize W1.setCell ⟨pl, 2, none⟩ (.string ke) = W2 at *
      have a0 := HC.out.bn.cell 0
      have a1 := HC.out.bn.cell 1
      have a2 := HC.out.bn.cell 2
      have a3 := HC.out.bn.cell 3
      have a4 := HC.out.bn.cell 4
      have a5 := HC.out.bn.cell 5
      have b0 := HC.out.bl.cell 0
      have c0 := (HX.out.later HC.out.lo).cell 0
      have b1 := HC.out.bl.cell 1
      have c1 := (HX.out.later HC.out.lo).cell 1
      have b2 := HC.out.bl.cell 2
      have c2 := (HX.out.later HC.out.lo).cell 2
      have b3 := HC.out.bl.cell 3
      have c3 := (HX.out.later HC.out.lo).cell 3
      have b4 := HC.out.bl.cell 4
      have c4 := (HX.out.later HC.out.lo).cell 4
      have b5 := HC.out.bl.cell 5
      have c5 := (HX.out.later HC.out.lo).cell 5
      have b6 := HC.out.bl.cell 6
      have c6 := (HX.out.later HC.out.lo).cell 6
      simp only [List.getElem?_toArray, List.getElem?_cons_zero, List.getElem?_cons_succ] at a0 a1 a2 a3 a4 a5 b0 c0 b1 c1 b2 c2 b3 c3 b4 c4 b5 c5 b6 c6
      have f0 := HC.out.bl.frozen 3
      go_upto_region 8 with (fail)
      clear a0 a1 a2 a3 a4 a5 b0 c0 b1 c1 b2 c2 b3 c3 b4 c4 b5 c5 b6 c6 f0
      replace HC : Hid (CW w1 (W2.setCell ⟨pl, 3, none⟩ (.string en)) pn pl #[.bool true, .bool true, .bool true, .bool false, .bool true, .bool false] #[.int .u8 (k : Int), .int .i64 tx, .string ke, .string en, .string { data := #[] }, .int .i64 0, .int .u8 0]) := HC.out.store 3 (.string en)
      generalize W2.setCell ⟨pl, 3, none⟩ (.string en) = W3 at *
      have a0 := HC.out.bn.cell 0
      have a1 := HC.out.bn.cell 1
      have a2 := HC.out.bn.cell 2
      have a3 := HC.out.bn.cell 3
      have a4 := HC.out.bn.cell 4
      have a5 := HC.out.bn.cell 5
      have b0 := HC.out.bl.cell 0
      have c0 := (HX.out.later HC.out.lo).cell 0
      have b1 := HC.out.bl.cell 1
      have c1 := (HX.out.later HC.out.lo).cell 1
      have b2 := HC.out.bl.cell 2
      have c2 := (HX.out.later HC.out.lo).cell 2
      have b3 := HC.out.bl.cell 3
      have c3 := (HX.out.later HC.out.lo).cell 3
      have b4 := HC.out.bl.cell 4
      have c4 := (HX.out.later HC.out.lo).cell 4
      have b5 := HC.out.bl.cell 5
      have c5 := (HX.out.later HC.out.lo).cell 5
      have b6 := HC.out.bl.cell 6
      have c6 := (HX.out.later HC.out.lo).cell 6
      simp only [List.getElem?_toArray, List.getElem?_cons_zero, List.getElem?_cons_succ] at a0 a1 a2 a3 a4 a5 b0 c0 b1 c1 b2 c2 b3 c3 b4 c4 b5 c5 b6 c6
      have f0 := HC.out.bl.frozen 5
      go_upto_region 12 with (fail)
      clear a0 a1 a2 a3 a4 a5 b0 c0 b1 c1 b2 c2 b3 c3 b4 c4 b5 c5 b6 c6 f0
      replace HC : Hid (CW w1 (W3.setCell ⟨pl, 5, none⟩ (.int .i64 li)) pn pl #[.bool true, .bool true, .bool true, .bool false, .bool true, .bool false] #[.int .u8 (k : Int), .int .i64 tx, .string ke, .string en, .string { data := #[] }, .int .i64 li, .int .u8 0]) := HC.out.store 5 (.int .i64 li)
      generalize W3.setCell ⟨pl, 5, none⟩ (.int .i64 li) = W4 at *
      have a0 := HC.out.bn.cell 0
      have a1 := HC.out.bn.cell 1
      have a2 := HC.out.bn.cell 2
      have a3 := HC.out.bn.cell 3
      have a4 := HC.out.bn.cell 4
      have a5 := HC.out.bn.cell 5
      have b0 := HC.out.bl.cell 0
      have c0 := (HX.out.later HC.out.lo).cell 0
      have b1 := HC.out.bl.cell 1
      have c1 := (HX.out.later HC.out.lo).cell 1
      have b2 := HC.out.bl.cell 2
      have c2 := (HX.out.later HC.out.lo).cell 2
      have b3 := HC.out.bl.cell 3
      have c3 := (HX.out.later HC.out.lo).cell 3
      have b4 := HC.out.bl.cell 4
      have c4 := (HX.out.later HC.out.lo).cell 4
      have b5 := HC.out.bl.cell 5
      have c5 := (HX.out.later HC.out.lo).cell 5
      have b6 := HC.out.bl.cell 6
      have c6 := (HX.out.later HC.out.lo).cell 6
      simp only [List.getElem?_toArray, List.getElem?_cons_zero, List.getElem?_cons_succ] at a0 a1 a2 a3 a4 a5 b0 c0 b1 c1 b2 c2 b3 c3 b4 c4 b5 c5 b6 c6
      have o0 := (HO.out.later HC.out.lo).cell 0
      have f0 := (HO.out.later HC.out.lo).frozen 0
      have o1 := (HO.out.later HC.out.lo).cell 1
      have f1 := (HO.out.later HC.out.lo).frozen 1
      have o2 := (HO.out.later HC.out.lo).cell 2
      have f2 := (HO.out.later HC.out.lo).frozen 2
      have o3 := (HO.out.later HC.out.lo).cell 3
      have f3 := (HO.out.later HC.out.lo).frozen 3
      have o4 := (HO.out.later HC.out.lo).cell 4
      have f4 := (HO.out.later HC.out.lo).frozen 4
      have o5 := (HO.out.later HC.out.lo).cell 5
      have f5 := (HO.out.later HC.out.lo).frozen 5
      have o6 := (HO.out.later HC.out.lo).cell 6
      have f6 := (HO.out.later HC.out.lo).frozen 6
      simp only [List.getElem?_toArray, List.getElem?_cons_zero, List.getElem?_cons_succ] at o0 o1 o2 o3 o4 o5 o6
      have HBW : Hid (Below w.heap.size w W4) := Lib.hid (stepB HB1.out HC.out.lo)
      have HPW : Hid (w.heap.size ≤ po) := Lib.hid (by have h1 := HPX.out; have h2 := HPO.out; omega)
      have HS7 := Lib.hid (set7 (HO.out.later HC.out.lo) rfl (.int .u8 (k : Int)) (.int .i64 tx) (.string ke) (.string en) (.string { data := #[] }) (.int .i64 li) (.int .u8 0) HBW.out HPW.out)
      clear HOF HNM K0 HG HPL HX HO HBW HPW HPX HPO HB1
      go_wp2
      refine bodyPost_ret (results_cell_row rfl _ _ po 24 _ (0, 0) _ rfl HS7.out.1 Tryd.underlying24 rfl (by kernel_rfl)) rfl ?_
      exact ⟨by rw [HE.out]; rfl, HS7.out.2⟩
    · have HE : Hid (clnC (k, tx, ke, en, va, li, eg) = clnN (true, false, false, false, false, false) (k, tx, ke, en, va, li, eg)) := Lib.hid (by unfold clnC; rw [show nmK (k, tx, ke, en, va, li, eg).1 = _ from HNM.out])
      have a0 := HC.out.bn.cell 0
      have a1 := HC.out.bn.cell 1
      have a2 := HC.out.bn.cell 2
      have a3 := HC.out.bn.cell 3
      have a4 := HC.out.bn.cell 4
      have a5 := HC.out.bn.cell 5
      have b0 := HC.out.bl.cell 0
      have c0 := (HX.out.later HC.out.lo).cell 0
      have b1 := HC.out.bl.cell 1
      have c1 := (HX.out.later HC.out.lo).cell 1
      have b2 := HC.out.bl.cell 2
      have c2 := (HX.out.later HC.out.lo).cell 2
      have b3 := HC.out.bl.cell 3
      have c3 := (HX.out.later HC.out.lo).cell 3
      have b4 := HC.out.bl.cell 4
      have c4 := (HX.out.later HC.out.lo).cell 4
      have b5 := HC.out.bl.cell 5
      have c5 := (HX.out.later HC.out.lo).cell 5
      have b6 := HC.out.bl.cell 6
      have c6 := (HX.out.later HC.out.lo).cell 6
      simp only [List.getElem?_toArray, List.getElem?_cons_zero, List.getElem?_cons_succ] at a0 a1 a2 a3 a4 a5 b0 c0 b1 c1 b2 c2 b3 c3 b4 c4 b5 c5 b6 c6
      have f0 := HC.out.bl.frozen 1
      go_upto_region 4 with (fail)
      clear a0 a1 a2 a3 a4 a5 b0 c0 b1 c1 b2 c2 b3 c3 b4 c4 b5 c5 b6 c6 f0
      replace HC : Hid (CW w1 (W0.setCell ⟨pl, 1, none⟩ (.int .i64 tx)) pn pl #[.bool true, .bool false, .bool false, .bool false, .bool false, .bool false] #[.int .u8 (k : Int), .int .i64 tx, .string { data := #[] }, .string { data := #[] }, .string { data := #[] }, .int .i64 0, .int .u8 0]) := HC.out.store 1 (.int .i64 tx)
      generalize W0.setCell ⟨pl, 1, none⟩ (.int .i64 tx) = W1 at *
      have a0 := HC.out.bn.cell 0
      have a1 := HC.out.bn.cell 1
      have a2 := HC.out.bn.cell 2
      have a3 := HC.out.bn.cell 3
      have a4 := HC.out.bn.cell 4
      have a5 := HC.out.bn.cell 5
      have b0 := HC.out.bl.cell 0
      have c0 := (HX.out.later HC.out.lo).cell 0
      have b1 := HC.out.bl.cell 1
      have c1 := (HX.out.later HC.out.lo).cell 1
      have b2 := HC.out.bl.cell 2
      have c2 := (HX.out.later HC.out.lo).cell 2
      have b3 := HC.out.bl.cell 3
      have c3 := (HX.out.later HC.out.lo).cell 3
      have b4 := HC.out.bl.cell 4
      have c4 := (HX.out.later HC.out.lo).cell 4
      have b5 := HC.out.bl.cell 5
      have c5 := (HX.out.later HC.out.lo).cell 5
      have b6 := HC.out.bl.cell 6
      have c6 := (HX.out.later HC.out.lo).cell 6
      simp only [List.getElem?_toArray, List.getElem?_cons_zero, List.getElem?_cons_succ] at a0 a1 a2 a3 a4 a5 b0 c0 b1 c1 b2 c2 b3 c3 b4 c4 b5 c5 b6 c6
      have o0 := (HO.out.later HC.out.lo).cell 0
      have f0 := (HO.out.later HC.out.lo).frozen 0
      have o1 := (HO.out.later HC.out.lo).cell 1
      have f1 := (HO.out.later HC.out.lo).frozen 1
      have o2 := (HO.out.later HC.out.lo).cell 2
      have f2 := (HO.out.later HC.out.lo).frozen 2
      have o3 := (HO.out.later HC.out.lo).cell 3
      have f3 := (HO.out.later HC.out.lo).frozen 3
      have o4 := (HO.out.later HC.out.lo).cell 4
      have f4 := (HO.out.later HC.out.lo).frozen 4
      have o5 := (HO.out.later HC.out.lo).cell 5
      have f5 := (HO.out.later HC.out.lo).frozen 5
      have o6 := (HO.out.later HC.out.lo).cell 6
      have f6 := (HO.out.later HC.out.lo).frozen 6
      simp only [List.getElem?_toArray, List.getElem?_cons_zero, List.getElem?_cons_succ] at o0 o1 o2 o3 o4 o5 o6
      have HBW : Hid (Below w.heap.size w W1) := Lib.hid (stepB HB1.out HC.out.lo)
      have HPW : Hid (w.heap.size ≤ po) := Lib.hid (by have h1 := HPX.out; have h2 := HPO.out; omega)
      have HS7 := Lib.hid (set7 (HO.out.later HC.out.lo) rfl (.int .u8 (k : Int)) (.int .i64 tx) (.string { data := #[] }) (.string { data := #[] }) (.string { data := #[] }) (.int .i64 0) (.int .u8 0) HBW.out HPW.out)
      clear HOF HNM K0 HG HPL HX HO HBW HPW HPX HPO HB1
      go_wp2
      refine bodyPost_ret (results_cell_row rfl _ _ po 24 _ (0, 0) _ rfl HS7.out.1 Tryd.underlying24 rfl (by kernel_rfl)) rfl ?_
      exact ⟨by rw [HE.out]; rfl, HS7.out.2⟩
    · have HE : Hid (clnC (k, tx, ke, en, va, li, eg) = clnN (false, false, false, false, false, true) (k, tx, ke, en, va, li, eg)) := Lib.hid (by unfold clnC; rw [show nmK (k, tx, ke, en, va, li, eg).1 = _ from HNM.out])
      have a0 := HC.out.bn.cell 0
      have a1 := HC.out.bn.cell 1
      have a2 := HC.out.bn.cell 2
      have a3 := HC.out.bn.cell 3
      have a4 := HC.out.bn.cell 4
      have a5 := HC.out.bn.cell 5
      have b0 := HC.out.bl.cell 0
      have c0 := (HX.out.later HC.out.lo).cell 0
      have b1 := HC.out.bl.cell 1
      have c1 := (HX.out.later HC.out.lo).cell 1
      have b2 := HC.out.bl.cell 2
      have c2 := (HX.out.later HC.out.lo).cell 2
      have b3 := HC.out.bl.cell 3
      have c3 := (HX.out.later HC.out.lo).cell 3
      have b4 := HC.out.bl.cell 4
      have c4 := (HX.out.later HC.out.lo).cell 4
      have b5 := HC.out.bl.cell 5
      have c5 := (HX.out.later HC.out.lo).cell 5
      have b6 := HC.out.bl.cell 6
      have c6 := (HX.out.later HC.out.lo).cell 6
      simp only [List.getElem?_toArray, List.getElem?_cons_zero, List.getElem?_cons_succ] at a0 a1 a2 a3 a4 a5 b0 c0 b1 c1 b2 c2 b3 c3 b4 c4 b5 c5 b6 c6
      have f0 := HC.out.bl.frozen 6
      go_upto_region 14 with (fail)
      clear a0 a1 a2 a3 a4 a5 b0 c0 b1 c1 b2 c2 b3 c3 b4 c4 b5 c5 b6 c6 f0
      replace HC : Hid (CW w1 (W0.setCell ⟨pl, 6, none⟩ (.int .u8 (eg : Int))) pn pl #[.bool false, .bool false, .bool false, .bool false, .bool false, .bool true] #[.int .u8 (k : Int), .int .i64 0, .string { data := #[] }, .string { data := #[] }, .string { data := #[] }, .int .i64 0, .int .u8 (eg : Int)]) := HC.out.store 6 (.int .u8 (eg : Int))
      generalize W0.setCell ⟨pl, 6, none⟩ (.int .u8 (eg : Int)) = W1 at *
      have a0 := HC.out.bn.cell 0
      have a1 := HC.out.bn.cell 1
      have a2 := HC.out.bn.cell 2
      have a3 := HC.out.bn.cell 3
      have a4 := HC.out.bn.cell 4
      have a5 := HC.out.bn.cell 5
      have b0 := HC.out.bl.cell 0
      have c0 := (HX.out.later HC.out.lo).cell 0
      have b1 := HC.out.bl.cell 1
      have c1 := (HX.out.later HC.out.lo).cell 1
      have b2 := HC.out.bl.cell 2
      have c2 := (HX.out.later HC.out.lo).cell 2
      have b3 := HC.out.bl.cell 3
      have c3 := (HX.out.later HC.out.lo).cell 3
      have b4 := HC.out.bl.cell 4
      have c4 := (HX.out.later HC.out.lo).cell 4
      have b5 := HC.out.bl.cell 5
      have c5 := (HX.out.later HC.out.lo).cell 5
      have b6 := HC.out.bl.cell 6
      have c6 := (HX.out.later HC.out.lo).cell 6
      simp only [List.getElem?_toArray, List.getElem?_cons_zero, List.getElem?_cons_succ] at a0 a1 a2 a3 a4 a5 b0 c0 b1 c1 b2 c2 b3 c3 b4 c4 b5 c5 b6 c6
      have o0 := (HO.out.later HC.out.lo).cell 0
      have f0 := (HO.out.later HC.out.lo).frozen 0
      have o1 := (HO.out.later HC.out.lo).cell 1
      have f1 := (HO.out.later HC.out.lo).frozen 1
      have o2 := (HO.out.later HC.out.lo).cell 2
      have f2 := (HO.out.later HC.out.lo).frozen 2
      have o3 := (HO.out.later HC.out.lo).cell 3
      have f3 := (HO.out.later HC.out.lo).frozen 3
      have o4 := (HO.out.later HC.out.lo).cell 4
      have f4 := (HO.out.later HC.out.lo).frozen 4
      have o5 := (HO.out.later HC.out.lo).cell 5
      have f5 := (HO.out.later HC.out.lo).frozen 5
      have o6 := (HO.out.later HC.out.lo).cell 6
      have f6 := (HO.out.later HC.out.lo).frozen 6
      simp only [List.getElem?_toArray, List.getElem?_cons_zero, List.getElem?_cons_succ] at o0 o1 o2 o3 o4 o5 o6
      have HBW : Hid (Below w.heap.size w W1) := Lib.hid (stepB HB1.out HC.out.lo)
      have HPW : Hid (w.heap.size ≤ po) := Lib.hid (by have h1 := HPX.out; have h2 := HPO.out; omega)
      have HS7 := Lib.hid (set7 (HO.out.later HC.out.lo) rfl (.int .u8 (k : Int)) (.int .i64 0) (.string { data := #[] }) (.string { data := #[] }) (.string { data := #[] }) (.int .i64 0) (.int .u8 (eg : Int)) HBW.out HPW.out)
      clear HOF HNM K0 HG HPL HX HO HBW HPW HPX HPO HB1
      go_wp2
      refine bodyPost_ret (results_cell_row rfl _ _ po 24 _ (0, 0) _ rfl HS7.out.1 Tryd.underlying24 rfl (by kernel_rfl)) rfl ?_
      exact ⟨by rw [HE.out]; rfl, HS7.out.2⟩

end Go.Proofs.YtkgdmdcnhbaidaaDoor
