/- Show. -/
import Derived.Test.YtkgdmdcnhbaidaaDoorK
namespace Go.Proofs.YtkgdmdcnhbaidaaDoor
open Go.ChangeShapes Go.WideShapes Go.ChangeAt Go.RowKit
set_option linter.unusedVariables false
set_option linter.unusedSimpArgs false

theorem idx76a (k : Nat) (i : Int) (hi : i = (k : Int)) (h : k < 10) (W : World) : (Instr.indexAt 76 (.pointer (some ⟨0, 0, none⟩)) (.int .u8 i)).run Tryd.prog W = .ok (.pointer (some ⟨0, k, none⟩)) W := by
  subst hi
  have h1 : (0 : Int) ≤ (k : Int) ∧ (k : Int) < 10 := by omega
  go_simp
/-- what is read while a call's words are begun -/
structure SH (w2 : World) (px k : Nat) (wd : ByteArray) (W : World) : Prop where
  lo : Below w2.heap.size w2 W
  c0 : W.cell? ⟨px, 0, none⟩ = some (.int .u8 (k : Int))
  cw : W.cell? ⟨0, k, none⟩ = some (.string wd)
  p0 : px < w2.heap.size
  p1 : 0 < w2.heap.size
section
variable {w2 W W' : World} {px k : Nat} {wd : ByteArray}
theorem SH.later (h : SH w2 px k wd W) (hb : Below W.heap.size W W') : SH w2 px k wd W' := ⟨stepB h.lo hb, (hb.cell (p := ⟨px, 0, none⟩) (Nat.lt_of_lt_of_le h.p0 h.lo.size)).trans h.c0, (hb.cell (p := ⟨0, k, none⟩) (Nat.lt_of_lt_of_le h.p1 h.lo.size)).trans h.cw, h.p0, h.p1⟩
theorem SH.drew (h : SH w2 px k wd W) : SH w2 px k wd W.drew := h.later (Below.drew (Below.refl _ _))
theorem SH.row (h : SH w2 px k wd W) {q : Nat} (hq : w2.heap.size ≤ q) (c : Array Value) : SH w2 px k wd (W.setRow q c) := by
  have h0 := h.p0
  have h1 := h.p1
  exact ⟨below_setRow h.lo hq c, (cell_setRow_other W q c ⟨px, 0, none⟩ (show px ≠ q by omega)).trans h.c0, (cell_setRow_other W q c ⟨0, k, none⟩ (show 0 ≠ q by omega)).trans h.cw, h0, h1⟩
theorem SH.set (h : SH w2 px k wd W) {q j : Nat} (hq : w2.heap.size ≤ q) (v : Value) : SH w2 px k wd (W.setCell ⟨q, j, none⟩ v) := by
  have h0 := h.p0
  have h1 := h.p1
  have e1 := Below.heap_setCell W ⟨q, j, none⟩ v px (show px ≠ q by omega)
  have e2 := Below.heap_setCell W ⟨q, j, none⟩ v 0 (show 0 ≠ q by omega)
  refine ⟨h.lo.setCell (p := ⟨q, j, none⟩) hq v, ?_, ?_, h0, h1⟩
  · have := h.c0; unfold World.cell? at this ⊢; rw [e1]; exact this
  · have := h.cw; unfold World.cell? at this ⊢; rw [e2]; exact this
end
/-- the first word's slice -/
def Cw (B : Nat) (wd : ByteArray) : Nat → Value → World → Prop
  | 0, u, _ => u = undef
  | _, u, W => Ow sv W B 9 u 1 [wd]
theorem Cw.later {B : Nat} {wd : ByteArray} {W W' : World} {u : Value} : ∀ {i : Nat}, Cw B wd i u W → Below W.heap.size W W' → Cw B wd i u W'
  | 0, h, _ => h
  | _ + 1, h, hb => Ow.later (show Ow sv W B 9 u 1 [wd] from h) hb
theorem ow_setRow {α : Type} {enc : α → Value} {W : World} {B e n p t : Nat} {v : Value} {xs : List α} {c c2 : Array Value} (o : Ow enc W B e v n xs) (hb : Blk W p c t) (ht : t ≠ e) : Ow enc (W.setRow p c2) B e v n xs := ow_keep o (fun k ek => setRow_other W p k c2 (fun e2 => by
  subst e2
  obtain ⟨cu, hc⟩ := Ow.tag o _ ek
  have := (show W.heap[k]? = _ from hb).symm.trans hc
  injection this with this
  injection this with _ this _
  exact ht this))
theorem Cw.row {B p t : Nat} {wd : ByteArray} {W : World} {u : Value} {c c2 : Array Value} : ∀ {i : Nat}, Cw B wd i u W → Blk W p c t → t ≠ 9 → Cw B wd i u (W.setRow p c2)
  | 0, h, _, _ => h
  | _ + 1, h, hb, ht => ow_setRow (show Ow sv W B 9 u 1 [wd] from h) hb ht
theorem Cb.row {B p t t2 : Nat} {cs : Array Value} {W : World} {u : Value} {c c2 : Array Value} : ∀ {i : Nat}, Cb B cs t i u W → Blk W p c t2 → t ≠ t2 → Cb B cs t i u (W.setRow p c2)
  | 0, h, _, _ => h
  | _ + 1, ⟨q, h1, h2, h3⟩, hb, ht => ⟨q, h1, h2, h3.setRow (h3.ne hb ht)⟩
def bnC (n6 : Array Value) : Nat → Array Value
  | 2 => n6
  | _ => #[.bool false, .bool false, .bool false, .bool false, .bool false, .bool false]
/-- behind the first word -/
structure ShW (w1 W : World) (pn pl : Nat) (n : Array Value) (v : Value) (L : List ByteArray) : Prop where
  lo : Below w1.heap.size w1 W
  bn : Blk W pn n 72
  h1 : w1.heap.size ≤ pn
  ls : LsAt W w1.heap.size pl v L
theorem ShW.later {w1 W W' : World} {pn pl : Nat} {n : Array Value} {v : Value} {L : List ByteArray} (h : ShW w1 W pn pl n v L) (hb : Below W.heap.size W W') : ShW w1 W' pn pl n v L := ⟨stepB h.lo hb, h.bn.later hb, h.h1, h.ls.later hb⟩
theorem ShW.add {w1 W W' : World} {pn pl : Nat} {n : Array Value} {v v' : Value} {L L' : List ByteArray} (h : ShW w1 W pn pl n v L) (hl : LsAt W' w1.heap.size pl v' L') (hf : FrX W W' pl v.ownBlock) : ShW w1 W' pn pl n v' L' := by
  refine ⟨hf.below h.lo h.lo.size h.ls.hp (fun j ej => (Ow.lt h.ls.row j ej).1), (hf.block pn h.bn.lt (h.bn.ne h.ls.blk (by decide)) (fun e => ?_)).trans h.bn, h.h1, hl⟩
  obtain ⟨cu, hc⟩ := Ow.tag h.ls.row _ e
  have := (show W.heap[pn]? = _ from h.bn).symm.trans hc
  injection this with this
  injection this with _ this _
  exact absurd this (by decide)
theorem moreL_ge {b : Bool} {L : List ByteArray} {s : ByteArray} (h : 1 ≤ L.length) : 1 ≤ (moreL b L s).length := by
  cases b with
  | true => show 1 ≤ (L ++ [s]).length; rw [List.length_append]; simp
  | false => exact h
abbrev SR (w1 : World) (pn : Nat) (n : Array Value) (W : World) : Prop := Below w1.heap.size w1 W ∧ Blk W pn n 72
/-- the words of a call -/
def showN (n : Nm) (wd s1 s2 s3 s4 s5 s6 : ByteArray) : List ByteArray := moreL n.2.2.2.2.2 (moreL n.2.2.2.2.1 (moreL n.2.2.2.1 (moreL n.2.2.1 (moreL n.2.1 (moreL n.1 [wd] s1) s2) s3) s4) s5) s6
def showL (x : Cl) : List ByteArray := showN (nmK x.1) (wdL.getD x.1 emp) (ofL (Lib.itoa x.2.1)) (hexP x.2.2.1) (hexP x.2.2.2.1) (hexP x.2.2.2.2.1) (ofL (Lib.itoa x.2.2.2.2.2.1)) (ofL (Lib.itoa (x.2.2.2.2.2.2 : Int)))
def lShq : List Nat := [0, 1, 3, 4, 5, 6]
def lSh (i j k l : Nat) : Array Bool := (Array.range 12).map fun o => lShq.contains o || (o == 2 && decide (1 ≤ i)) || (o == 10 && decide (2 ≤ i)) || (o == 8 && decide (1 ≤ j)) || (o == 9 && decide (1 ≤ k)) || (o == 7 && decide (1 ≤ l))
def pSh (i : Nat) : Nat := if i = 0 then 2 else 10
def qSh (i : Nat) : Nat := 8
def rSh (i : Nat) : Nat := 9
def tSh (i : Nat) : Nat := 7
def okSh (i j k l : Nat) : Bool := decide (i < 2) || (j == 1 && k == 1)
set_option maxRecDepth 100000 in
set_option maxHeartbeats 16000000 in
theorem show_yes (kn : Nat) (tx : Int) (ke en va : ByteArray) (li : Int) (egn : Nat) (w : World) (hk : kn < 10) (he : egn ≤ 255) (hg : Gl w) (hm : mayC (kn, tx, ke, en, va, li, egn) = true) (ht : -9223372036854775808 ≤ tx ∧ tx ≤ 9223372036854775807) (hli : -9223372036854775808 ≤ li ∧ li ≤ 9223372036854775807) (hke : ke.size ≤ 100000) (hen : en.size ≤ 100000) (hva : va.size ≤ 100000) (hjl : (joinW (showL (kn, tx, ke, en, va, li, egn))).size ≤ 140737488355328) : Calls Tryd.prog 12 #[clV (kn, tx, ke, en, va, li, egn)] w fun e w' => e = .returned (.string (joinW (showL (kn, tx, ke, en, va, li, egn)))) ∧ Below w.heap.size w w' := by
  obtain ⟨J, hJ⟩ : ∃ J, joinW (showL (kn, tx, ke, en, va, li, egn)) = J := ⟨_, rfl⟩
  rw [hJ] at hjl ⊢
  have HJ := Lib.hid hJ
  have HJL := Lib.hid hjl
  clear hJ hjl
  show Calls Tryd.prog 12 #[.agg #[.int .u8 (kn : Int), .int .i64 tx, .string ke, .string en, .string va, .int .i64 li, .int .u8 (egn : Int)]] w _
  have HB : Hid (Below w.heap.size w (w.alloc (.cells #[.int .u8 (kn : Int), .int .i64 tx, .string ke, .string en, .string va, .int .i64 li, .int .u8 (egn : Int)] 24))) := (Below.refl _ _).alloc (Nat.le_refl _) _
  have HK : Hid (Blk (w.alloc (.cells #[.int .u8 (kn : Int), .int .i64 tx, .string ke, .string en, .string va, .int .i64 li, .int .u8 (egn : Int)] 24)) w.heap.size #[.int .u8 (kn : Int), .int .i64 tx, .string ke, .string en, .string va, .int .i64 li, .int .u8 (egn : Int)] 24) := Blk.new _ _ _
  have HG := Lib.hid (hg.later HB.out)
  have HLT : Hid (8 ≤ w.heap.size) := hg.lo
  have hmy := may_any (kn, tx, ke, en, va, li, egn) (w.alloc (.cells #[.int .u8 (kn : Int), .int .i64 tx, .string ke, .string en, .string va, .int .i64 li, .int .u8 (egn : Int)] 24)) (show kn ≤ 255 by omega) he HG.out
  rw [hm] at hmy
  unfold clV at hmy
  simp only at hmy
  have HMY := Lib.hid hmy
  clear hg hm hmy
  go_enter Tryd.func12, Tryd.ntmps12
  go_upto_region 1 with (fail)
  generalize w.alloc (.cells #[.int .u8 (kn : Int), .int .i64 tx, .string ke, .string en, .string va, .int .i64 li, .int .u8 (egn : Int)] 24) = w1 at *
  obtain ⟨px, hpx⟩ : ∃ x, w.heap.size = x := ⟨_, rfl⟩
  rw [hpx] at HK ⊢
  have c0 := HK.out.cell 0
  have c1 := HK.out.cell 1
  have c2 := HK.out.cell 2
  have c3 := HK.out.cell 3
  have c4 := HK.out.cell 4
  have c5 := HK.out.cell 5
  have c6 := HK.out.cell 6
  simp only [List.getElem?_toArray, List.getElem?_cons_zero, List.getElem?_cons_succ] at c0 c1 c2 c3 c4 c5 c6
  go_wp2_with fail
  refine HMY.out.mono ?_
  rintro e w2 ⟨rfl, hb⟩
  have HG2 := Lib.hid (HG.out.later hb)
  have HK2 := Lib.hid (HK.out.later hb)
  have HB2 := Lib.hid (stepB HB.out hb)
  clear hb HMY HG HK c0 c1 c2 c3 c4 c5 c6
  go_upto_region 3 with (fail)
  obtain ⟨wd, hwd⟩ : ∃ wd, wdL.getD kn emp = wd := ⟨_, rfl⟩
  have hwx : wdL[kn]? = some wd := by rw [← hwd, List.getD_eq_getElem?_getD, List.getElem?_eq_getElem (show kn < wdL.length from hk)]; rfl
  have K0 : Hid (SH w2 px kn wd w2.drew) := SH.drew ⟨Below.refl _ _, HK2.out.cell 0, HG2.out.words kn wd hwx, HK2.out.lt, by have := HG2.out.lo; omega⟩
  obtain ⟨nm, hnm⟩ : ∃ nm, nmK kn = nm := ⟨_, rfl⟩
  have HOF : Hid (∀ W, SH w2 px kn wd W → Calls Tryd.prog 33 #[.int .u8 (kn : Int)] W fun e w' => e = .returned (.agg #[.bool nm.1, .bool nm.2.1, .bool nm.2.2.1, .bool nm.2.2.2.1, .bool nm.2.2.2.2.1, .bool nm.2.2.2.2.2]) ∧ Below W.heap.size W w') := Lib.hid (fun W h => by
    have h2 := of_any kn W (by omega) (HG2.out.later h.lo)
    rw [hnm] at h2
    exact h2)
  have i1 := idx76a kn (kn : Int) rfl hk
  obtain ⟨s1, hs1⟩ : ∃ s, ofL (Lib.itoa tx) = s := ⟨_, rfl⟩
  obtain ⟨s2, hs2⟩ : ∃ s, hexP ke = s := ⟨_, rfl⟩
  obtain ⟨s3, hs3⟩ : ∃ s, hexP en = s := ⟨_, rfl⟩
  obtain ⟨s4, hs4⟩ : ∃ s, hexP va = s := ⟨_, rfl⟩
  obtain ⟨s5, hs5⟩ : ∃ s, ofL (Lib.itoa li) = s := ⟨_, rfl⟩
  obtain ⟨s6, hs6⟩ : ∃ s, ofL (Lib.itoa (egn : Int)) = s := ⟨_, rfl⟩
  have HW1 : Hid (∀ W, Below w2.heap.size w2 W → Calls Tryd.prog 38 #[.int .i64 tx] W fun e w' => e = .returned (.string s1) ∧ Below W.heap.size W w') := Lib.hid (fun W h => hs1 ▸ itoa_any tx W ht (HG2.out.later h))
  have HW2 : Hid (∀ W, Below w2.heap.size w2 W → Calls Tryd.prog 39 #[.string ke] W fun e w' => e = .returned (.string s2) ∧ Below W.heap.size W w') := Lib.hid (fun W h => hs2 ▸ hex_any ke W hke)
  have HW3 : Hid (∀ W, Below w2.heap.size w2 W → Calls Tryd.prog 39 #[.string en] W fun e w' => e = .returned (.string s3) ∧ Below W.heap.size W w') := Lib.hid (fun W h => hs3 ▸ hex_any en W hen)
  have HW4 : Hid (∀ W, Below w2.heap.size w2 W → Calls Tryd.prog 39 #[.string va] W fun e w' => e = .returned (.string s4) ∧ Below W.heap.size W w') := Lib.hid (fun W h => hs4 ▸ hex_any va W hva)
  have HW5 : Hid (∀ W, Below w2.heap.size w2 W → Calls Tryd.prog 38 #[.int .i64 li] W fun e w' => e = .returned (.string s5) ∧ Below W.heap.size W w') := Lib.hid (fun W h => hs5 ▸ itoa_any li W hli (HG2.out.later h))
  have HW6 : Hid (∀ W, Below w2.heap.size w2 W → Calls Tryd.prog 38 #[.int .i64 (egn : Int)] W fun e w' => e = .returned (.string s6) ∧ Below W.heap.size W w') := Lib.hid (fun W h => hs6 ▸ itoa_any (egn : Int) W (by omega) (HG2.out.later h))
  have HLX : Hid (showL (kn, tx, ke, en, va, li, egn) = showN nm wd s1 s2 s3 s4 s5 s6) := Lib.hid (by
    unfold showL
    simp only
    rw [hnm, hwd, hs1, hs2, hs3, hs4, hs5, hs6])
  have wE : IntKind.i64.wrap (egn : Int) = (egn : Int) := IntWalk.i64_in _ (by omega)
  have HBW : Hid (Below w.heap.size w w2) := Lib.hid HB2.out
  clear hnm hwx hwd hs1 hs2 hs3 hs4 hs5 hs6 ht hli hke hen hva
  obtain ⟨n0, n1, n2, n3, n4, n5⟩ := nm
  simp only at HOF
  go_cut [3, 4] (fun s3 s4 wx => ∃ pn pl v, s3 = .pointer (some ⟨pn, 0, none⟩) ∧ s4 = .pointer (some ⟨pl, 0, none⟩) ∧ ShW w2 wx pn pl #[.bool n0, .bool n1, .bool n2, .bool n3, .bool n4, .bool n5] v [wd])
  case first =>
    refine wp_region_noPanic ?_
    refine wp_region_held_drew (S := SH w2 px kn wd) (by kernel_rfl) K0.out (fun hHeld => ?_)
    refine wpAnyH_take (i := 0) (oi := { dst := some 9, op := Op.fieldAddr 24 (Operand.tmp 1) 0, type := 0, pos := "call.go:183", after := #[], guard := none }) (v := ?_) rfl (by kernel_rfl) (by kernel_rfl) (by kernel_rfl) (fun _ _ _ h => h) (Or.inl ⟨by rfl, ?_⟩) (by assumption) ?_
    rotate_left
    · intro W hSw
      have k0 := hSw.c0
      have k1 := hSw.cw
      go_simp
      try with_reducible rfl
    simp only [Act.put, List.setIfInBounds_toArray, List.set_cons_zero, List.set_cons_succ]
    refine wpAnyH_take (i := 1) (oi := { dst := some 10, op := Op.load 5 (Operand.tmp 9), type := 5, pos := "call.go:183", after := #[{ on := 0, ground := Ground.data }], guard := none }) (v := ?_) rfl (by kernel_rfl) (by kernel_rfl) (by kernel_rfl) (fun _ _ _ h => h) (Or.inl ⟨by rfl, ?_⟩) (by assumption) ?_
    rotate_left
    · intro W hSw
      have k0 := hSw.c0
      have k1 := hSw.cw
      go_simp
      try with_reducible rfl
    simp only [Act.put, List.setIfInBounds_toArray, List.set_cons_zero, List.set_cons_succ]
    refine wpAnyH_take (i := 3) (oi := { dst := some 12, op := Op.fieldAddr 24 (Operand.tmp 1) 0, type := 0, pos := "call.go:183", after := #[{ on := 10, ground := Ground.gcOnly Departure.lateStores }], guard := none }) (v := ?_) rfl (by kernel_rfl) (by kernel_rfl) (by kernel_rfl) (fun _ _ _ h => h) (Or.inl ⟨by rfl, ?_⟩) (by assumption) ?_
    rotate_left
    · intro W hSw
      have k0 := hSw.c0
      have k1 := hSw.cw
      go_simp
      try with_reducible rfl
    simp only [Act.put, List.setIfInBounds_toArray, List.set_cons_zero, List.set_cons_succ]
    refine wpAnyH_take (i := 4) (oi := { dst := some 13, op := Op.load 5 (Operand.tmp 12), type := 5, pos := "call.go:183", after := #[{ on := 3, ground := Ground.data }, { on := 10, ground := Ground.gcOnly Departure.lateStores }], guard := none }) (v := ?_) rfl (by kernel_rfl) (by kernel_rfl) (by kernel_rfl) (fun _ _ _ h => h) (Or.inl ⟨by rfl, ?_⟩) (by assumption) ?_
    rotate_left
    · intro W hSw
      have k0 := hSw.c0
      have k1 := hSw.cw
      go_simp
      try with_reducible rfl
    simp only [Act.put, List.setIfInBounds_toArray, List.set_cons_zero, List.set_cons_succ]
    refine wpAnyH_take (i := 5) (oi := { dst := some 14, op := Op.indexAddr 76 (Operand.global 0) (Operand.tmp 13), type := 0, pos := "call.go:183", after := #[{ on := 4, ground := Ground.data }, { on := 10, ground := Ground.gcOnly Departure.lateStores }], guard := none }) (v := ?_) rfl (by kernel_rfl) (by kernel_rfl) (by kernel_rfl) (fun _ _ _ h => h) (Or.inl ⟨by rfl, ?_⟩) (by assumption) ?_
    rotate_left
    · intro W hSw
      have k0 := hSw.c0
      have k1 := hSw.cw
      go_simp
      try with_reducible rfl
    simp only [Act.put, List.setIfInBounds_toArray, List.set_cons_zero, List.set_cons_succ]
    refine wpAnyH_take (i := 6) (oi := { dst := some 15, op := Op.load 9 (Operand.tmp 14), type := 9, pos := "call.go:183", after := #[{ on := 5, ground := Ground.data }, { on := 10, ground := Ground.gcOnly Departure.lateStores }], guard := none }) (v := ?_) rfl (by kernel_rfl) (by kernel_rfl) (by kernel_rfl) (fun _ _ _ h => h) (Or.inl ⟨by rfl, ?_⟩) (by assumption) ?_
    rotate_left
    · intro W hSw
      have k0 := hSw.c0
      have k1 := hSw.cw
      go_simp
      try with_reducible rfl
    simp only [Act.put, List.setIfInBounds_toArray, List.set_cons_zero, List.set_cons_succ]
    refine wpAnyH_cast (f := 6) (l := lSh 0 0 0 0) (by kernel_rfl) (by kernel_rfl) ?_
    refine chains4 2 1 1 1 1 pSh qSh rSh tSh okSh lSh (fun i j kk l x W => okSh i j kk l = true ∧ ∃ v3 v4 v11 v16 : Value, x = ({ tmps := #[.agg #[.int .u8 (kn : Int), .int .i64 tx, .string ke, .string en, .string va, .int .i64 li, .int .u8 (egn : Int)], .pointer (some ⟨px, 0, none⟩), .string { data := #[] }, v3, v4, undef, .agg #[.int .u8 (kn : Int), .int .i64 tx, .string ke, .string en, .string va, .int .i64 li, .int .u8 (egn : Int)], .int .i64 0, .bool false, .pointer (some ⟨px, 0, none⟩), .int .u8 (kn : Int), v11, .pointer (some ⟨px, 0, none⟩), .int .u8 (kn : Int), .pointer (some ⟨0, kn, none⟩), .string wd, v16, undef, undef, undef, undef, undef, undef, undef, undef, undef, undef, undef, undef, undef, undef, undef, undef, undef, undef, undef, undef, undef, undef, undef, undef, undef, undef, undef, undef, undef, undef, undef, undef, undef, undef, undef, undef, undef, undef, undef, undef, undef, undef, undef, undef, undef, undef], defers := [] } : Act) ∧ w2.heap.size ≤ W.heap.size ∧ Cv (.agg #[.bool n0, .bool n1, .bool n2, .bool n3, .bool n4, .bool n5]) i v11 ∧ Cb w2.heap.size (bnC #[.bool n0, .bool n1, .bool n2, .bool n3, .bool n4, .bool n5] i) 72 j v3 W ∧ Cb w2.heap.size #[.slice none 0 0] 25 kk v4 W ∧ Cw w2.heap.size wd l v16 W) (by decide +kernel) (by decide +kernel) (by decide +kernel) (by decide +kernel) (by decide +kernel) ?s1 ?s2 ?s3 ?s4 ?fin 5 0 0 0 0 _ _ (by omega) (by omega) (by omega) (by omega) rfl rfl ⟨rfl, undef, undef, undef, undef, rfl, by first | exact Nat.le_refl _ | simp, rfl, rfl, rfl, rfl⟩ hHeld
    case s1 =>
      intro i j kk l x W hi hj hkk hl hok hI hS
      obtain ⟨hok0, v3, v4, v11, v16, rfl, hw, hc1, c2, c3, c4⟩ := hI
      have hst : i = 0 ∨ i = 1 := by omega
      rcases hst with hst | hst
      · subst hst
        have hv : v11 = undef := hc1
        subst hv
        show wpOp _ _ _ 2 _ _ _
        refine wpOp_step (o := { dst := some 11, op := Op.call { callee := Callee.value (Operand.func 33), args := #[Operand.tmp 10], argTypes := #[5] }, type := 72, pos := "call.go:183", after := #[{ on := 1, ground := Ground.data }], guard := none }) rfl (fun K' hK => ?_)
        have HK := Lib.hid hK
        have HS3 := Lib.hid hS
        have HW := Lib.hid hw
        clear hK hS hw
        have C2 := Lib.hid c2
        have C3 := Lib.hid c3
        have C4 := Lib.hid c4
        have HC := Lib.hid (HOF.out W HS3.out)
        clear hc1 c2 c3 c4 hHeld
        go_simp
        refine HC.out.mono ?_
        rintro e W2 ⟨rfl, hb⟩
        refine HK.out _ _ ⟨HS3.out.later hb, ?_⟩
        exact ⟨hok, v3, v4, _, v16, rfl, Nat.le_trans HW.out hb.size, rfl, C2.out.later hb, C3.out.later hb, C4.out.later hb⟩
      · subst hst
        have hv : v11 = .agg #[.bool n0, .bool n1, .bool n2, .bool n3, .bool n4, .bool n5] := hc1
        subst hv
        have hjk : j = 1 ∧ kk = 1 := by simpa [okSh] using hok
        obtain ⟨hj1, hk1⟩ := hjk
        subst hj1
        subst hk1
        obtain ⟨pn, rfl, hpn, bn⟩ := c2
        show wpOp _ _ _ 10 _ _ _
        refine wpOp_step (o := { dst := none, op := Op.store 72 (Operand.tmp 3) (Operand.tmp 11), type := 0, pos := "call.go:183", after := #[{ on := 8, ground := Ground.data }, { on := 2, ground := Ground.data }, { on := 2, ground := Ground.chain }, { on := 0, ground := Ground.phase }, { on := 1, ground := Ground.phase }, { on := 2, ground := Ground.phase }, { on := 3, ground := Ground.textOnly Departure.lateStores }, { on := 4, ground := Ground.textOnly Departure.lateStores }, { on := 5, ground := Ground.textOnly Departure.lateStores }, { on := 6, ground := Ground.textOnly Departure.lateStores }, { on := 7, ground := Ground.textOnly Departure.lateStores }, { on := 8, ground := Ground.phase }, { on := 9, ground := Ground.phase }], guard := none }) rfl (fun K' hK => ?_)
        have HK := Lib.hid hK
        have HS3 := Lib.hid hS
        have HW := Lib.hid hw
        clear hK hS hw
        have BN : Hid (Blk W pn #[.bool false, .bool false, .bool false, .bool false, .bool false, .bool false] 72) := bn
        have C3 := Lib.hid c3
        have C4 := Lib.hid c4
        have HPN := Lib.hid hpn
        clear hc1 bn c3 c4 hpn hHeld
        refine wp_store_row 72 (.tmp 3) (.tmp 11) rfl pn #[.bool n0, .bool n1, .bool n2, .bool n3, .bool n4, .bool n5] rfl rfl 72 #[.bool false, .bool false, .bool false, .bool false, .bool false, .bool false] BN.out (by kernel_rfl) rfl (by first | rfl | (simp [Value.oneCell']; done)) ?_
        refine HK.out _ _ ⟨HS3.out.row HPN.out _, ?_⟩
        exact ⟨hok, _, v4, _, v16, rfl, by rw [setRow_size]; exact HW.out, rfl, ⟨pn, rfl, HPN.out, BN.out.setRow_self⟩, C3.out.row BN.out (by decide), C4.out.row BN.out (by decide)⟩
    case s2 =>
      intro i j kk l x W hi hj hkk hl hok hI hS
      have hj0 : j = 0 := by omega
      subst hj0
      have hi2 : i < 2 := by
        have h0 := hI.1
        simpa [okSh] using h0
      have hcs : bnC #[.bool n0, .bool n1, .bool n2, .bool n3, .bool n4, .bool n5] i = #[.bool false, .bool false, .bool false, .bool false, .bool false, .bool false] := by
        have hst : i = 0 ∨ i = 1 := by omega
        rcases hst with rfl | rfl <;> rfl
      rw [hcs] at hI
      obtain ⟨hok0, v3, v4, v11, v16, rfl, hw, c1, hc2, c3, c4⟩ := hI
      have hv : v3 = undef := hc2
      subst hv
      show wpOp _ _ _ 8 _ _ _
      refine wpOp_step (o := { dst := some 3, op := Op.alloc 72, type := 0, pos := "call.go:183", after := #[], guard := none }) rfl (fun K' hK => ?_)
      have HK := Lib.hid hK
      have HS3 := Lib.hid hS
      have HW := Lib.hid hw
      clear hK hS hw
      have C1 := Lib.hid c1
      have C3 := Lib.hid c3
      have C4 := Lib.hid c4
      have HCS := Lib.hid hcs
      clear c1 hc2 c3 c4 hHeld hcs hi2
      go_simp
      have hby : Below W.heap.size W (W.alloc (.cells #[.bool false, .bool false, .bool false, .bool false, .bool false, .bool false] 72)) := (Below.refl _ _).alloc (Nat.le_refl _) _
      refine HK.out _ _ ⟨HS3.out.later hby, ?_⟩
      exact ⟨hok, _, v4, v11, v16, rfl, Nat.le_trans HW.out hby.size, C1.out, ⟨W.heap.size, rfl, HW.out, by rw [HCS.out]; exact Blk.new _ _ _⟩, C3.out.later hby, C4.out.later hby⟩
    case s3 =>
      intro i j kk l x W hi hj hkk hl hok hI hS
      have hk0 : kk = 0 := by omega
      subst hk0
      obtain ⟨hok0, v3, v4, v11, v16, rfl, hw, c1, c2, hc3, c4⟩ := hI
      have hv : v4 = undef := hc3
      subst hv
      show wpOp _ _ _ 9 _ _ _
      refine wpOp_step (o := { dst := some 4, op := Op.alloc 25, type := 0, pos := "call.go:183", after := #[], guard := none }) rfl (fun K' hK => ?_)
      have HK := Lib.hid hK
      have HS3 := Lib.hid hS
      have HW := Lib.hid hw
      clear hK hS hw
      have C1 := Lib.hid c1
      have C2 := Lib.hid c2
      have C4 := Lib.hid c4
      clear c1 hc3 c2 c4 hHeld
      go_simp
      have hby : Below W.heap.size W (W.alloc (.cells #[.slice none 0 0] 25)) := (Below.refl _ _).alloc (Nat.le_refl _) _
      refine HK.out _ _ ⟨HS3.out.later hby, ?_⟩
      exact ⟨hok, v3, _, v11, v16, rfl, Nat.le_trans HW.out hby.size, C1.out, C2.out.later hby, ⟨W.heap.size, rfl, HW.out, Blk.new _ _ _⟩, C4.out.later hby⟩
    case s4 =>
      intro i j kk l x W hi hj hkk hl hok hI hS
      have hl0 : l = 0 := by omega
      subst hl0
      obtain ⟨hok0, v3, v4, v11, v16, rfl, hw, c1, c2, c3, hc4⟩ := hI
      have hv : v16 = undef := hc4
      subst hv
      show wpOp _ _ _ 7 _ _ _
      refine wpOp_step (o := { dst := some 16, op := Op.buildSlice 25 1 #[(0, Operand.tmp 15)], type := 25, pos := "call.go:183", after := #[{ on := 6, ground := Ground.data }, { on := 10, ground := Ground.gcOnly Departure.lateStores }], guard := none }) rfl (fun K' hK => ?_)
      have HK := Lib.hid hK
      have HS3 := Lib.hid hS
      have HW := Lib.hid hw
      clear hK hS hw
      have C1 := Lib.hid c1
      have C2 := Lib.hid c2
      have C3 := Lib.hid c3
      clear c1 hc4 c2 c3 hHeld
      go_simp
      have hby : Below W.heap.size W (W.alloc (.cells #[.string wd] 9)) := (Below.refl _ _).alloc (Nat.le_refl _) _
      have how : Ow sv (W.alloc (.cells #[.string wd] 9)) w2.heap.size 9 (.slice (some ⟨W.heap.size, 0, none⟩) 1 1) 1 [wd] := World.ownsRow_lit (base := w2.heap.size) (e := 9) (size := 1) W #[.string wd] 1 HW.out (by decide) rfl
      refine HK.out _ _ ⟨HS3.out.later hby, ?_⟩
      exact ⟨hok, v3, v4, v11, _, rfl, Nat.le_trans HW.out hby.size, C1.out, C2.out.later hby, C3.out.later hby, how⟩
    case fin =>
      intro x W hI hS
      obtain ⟨hok0, v3, v4, v11, v16, rfl, hw, c1, ⟨pn, rfl, hpn, bn⟩, ⟨pl, rfl, hpl, bl⟩, c4⟩ := hI
      have hv : v11 = .agg #[.bool n0, .bool n1, .bool n2, .bool n3, .bool n4, .bool n5] := c1
      subst hv
      have BN : Hid (Blk W pn #[.bool n0, .bool n1, .bool n2, .bool n3, .bool n4, .bool n5] 72) := bn
      have BL := Lib.hid bl
      have HNE := Lib.hid (BN.out.ne bl (by decide))
      have C4 : Hid (Ow sv W w2.heap.size 9 v16 1 [wd]) := c4
      have HPN := Lib.hid hpn
      have HPL := Lib.hid hpl
      have HSA := Lib.hid hS
      have c0 := bl.cell 0
      have f0 := bl.frozen 0
      simp only [List.getElem?_toArray, List.getElem?_cons_zero, List.getElem?_cons_succ] at c0
      obtain ⟨A16, k16, hv16, _⟩ := Ow.sl C4.out
      subst hv16
      clear c1 bn bl hw hpn hpl hS hHeld c4
      refine wpAnyH_ready (rs := [11]) (by kernel_rfl) (by simp) (AllReadyH.cons (o := { dst := none, op := Op.store 25 (Operand.tmp 4) (Operand.tmp 16), type := 0, pos := "call.go:183", after := #[{ on := 9, ground := Ground.data }, { on := 7, ground := Ground.data }, { on := 10, ground := Ground.chain }, { on := 0, ground := Ground.phase }, { on := 1, ground := Ground.phase }, { on := 2, ground := Ground.phase }, { on := 3, ground := Ground.phase }, { on := 4, ground := Ground.phase }, { on := 5, ground := Ground.phase }, { on := 6, ground := Ground.phase }, { on := 7, ground := Ground.phase }, { on := 8, ground := Ground.phase }, { on := 9, ground := Ground.phase }, { on := 10, ground := Ground.phase }], guard := none }) rfl (fun K hK => ?_) AllReadyH.nil)
      go_simp
      refine hK.out _ _ (HSA.out.set HPL.out _) (fun hH2 => ?_)
      clear hK K c0 f0
      refine wpAnyH_done (by kernel_rfl) (NoPanic.normal ?_) _
      have HEND : Hid (ShW w2 (W.setCell ⟨pl, 0, none⟩ (.slice A16 1 k16)) pn pl #[.bool n0, .bool n1, .bool n2, .bool n3, .bool n4, .bool n5] (.slice A16 1 k16) [wd]) := by
        refine ⟨hH2.lo, BN.out.other HNE.out _, HPN.out, HPL.out, BL.out.set (j := 0) _, ?_⟩
        refine ow_keep C4.out (fun q eq => Below.heap_setCell W ⟨pl, 0, none⟩ _ q (fun e => ?_))
        subst e
        obtain ⟨cu, hc⟩ := Ow.tag C4.out _ eq
        have := (show W.heap[q]? = _ from BL.out).symm.trans hc
        injection this with this
        injection this with _ this _
        exact absurd this (by decide)
      clear BN BL HNE C4 HPN HPL HSA hH2
      go_wp2
      go_meet
      exact ⟨pn, pl, _, rfl, rfl, HEND.out⟩
  case rest =>
    obtain ⟨pn, pl, v0, rfl, rfl, hc⟩ := hcut
    obtain ⟨W0, rfl⟩ : ∃ W0 : World, W0 = wc := ⟨_, rfl⟩
    have HC0 := Lib.hid hc
    have HLN0 : Hid (1 ≤ ([wd] : List ByteArray).length ∧ ([wd] : List ByteArray).length ≤ 1) := Lib.hid (by simp)
    obtain ⟨L0, hL0⟩ : ∃ L, [wd] = L := ⟨_, rfl⟩
    rw [hL0] at HC0 HLN0
    have HL0 := Lib.hid hL0
    obtain ⟨A, c, rfl, _⟩ := Ow.sl HC0.out.ls.row
    generalize Value.slice A L0.length c = v0 at HC0
    clear hc hL0 HOF K0 i1
    go_upto_region 5 with (fail)
    have HD0 : Hid (ShW w2 W0.drew pn pl #[.bool n0, .bool n1, .bool n2, .bool n3, .bool n4, .bool n5] v0 L0) := Lib.hid (HC0.out.later (Below.drew (Below.refl _ _)))
    refine wp_region_noPanic ?_
    refine wp_region_held_drew (S := SR w2 pn #[.bool n0, .bool n1, .bool n2, .bool n3, .bool n4, .bool n5]) (by kernel_rfl) ⟨HD0.out.lo, HD0.out.bn⟩ (fun hHeld => ?_)
    clear HC0
    refine wpAnyH_take (i := 0) (oi := { dst := some 18, op := Op.move (Operand.tmp 5), type := 77, pos := "call.go:189", after := #[], guard := none }) (v := ?_) rfl (by kernel_rfl) (by kernel_rfl) (by kernel_rfl) (fun _ _ _ h => h) (Or.inl ⟨by rfl, ?_⟩) (by assumption) ?_
    rotate_left
    · intro W hSw
      have hn := hSw.2.cell 0
      have hx := (HK2.out.later hSw.1).cell 1
      simp only [List.getElem?_toArray, List.getElem?_cons_zero, List.getElem?_cons_succ] at hn hx
      go_simp
      try with_reducible rfl
    simp only [Act.put, List.setIfInBounds_toArray, List.set_cons_zero, List.set_cons_succ]
    refine wpAnyH_take (i := 1) (oi := { dst := some 19, op := Op.fieldAddr 72 (Operand.tmp 3) 0, type := 0, pos := "call.go:189", after := #[], guard := none }) (v := ?_) rfl (by kernel_rfl) (by kernel_rfl) (by kernel_rfl) (fun _ _ _ h => h) (Or.inl ⟨by rfl, ?_⟩) (by assumption) ?_
    rotate_left
    · intro W hSw
      have hn := hSw.2.cell 0
      have hx := (HK2.out.later hSw.1).cell 1
      simp only [List.getElem?_toArray, List.getElem?_cons_zero, List.getElem?_cons_succ] at hn hx
      go_simp
      try with_reducible rfl
    simp only [Act.put, List.setIfInBounds_toArray, List.set_cons_zero, List.set_cons_succ]
    refine wpAnyH_take (i := 2) (oi := { dst := some 20, op := Op.load 4 (Operand.tmp 19), type := 4, pos := "call.go:189", after := #[{ on := 1, ground := Ground.data }], guard := none }) (v := ?_) rfl (by kernel_rfl) (by kernel_rfl) (by kernel_rfl) (fun _ _ _ h => h) (Or.inl ⟨by rfl, ?_⟩) (by assumption) ?_
    rotate_left
    · intro W hSw
      have hn := hSw.2.cell 0
      have hx := (HK2.out.later hSw.1).cell 1
      simp only [List.getElem?_toArray, List.getElem?_cons_zero, List.getElem?_cons_succ] at hn hx
      go_simp
      try with_reducible rfl
    simp only [Act.put, List.setIfInBounds_toArray, List.set_cons_zero, List.set_cons_succ]
    refine wpAnyH_take (i := 3) (oi := { dst := some 21, op := Op.fieldAddr 24 (Operand.tmp 1) 1, type := 0, pos := "call.go:189", after := #[], guard := none }) (v := ?_) rfl (by kernel_rfl) (by kernel_rfl) (by kernel_rfl) (fun _ _ _ h => h) (Or.inl ⟨by rfl, ?_⟩) (by assumption) ?_
    rotate_left
    · intro W hSw
      have hn := hSw.2.cell 0
      have hx := (HK2.out.later hSw.1).cell 1
      simp only [List.getElem?_toArray, List.getElem?_cons_zero, List.getElem?_cons_succ] at hn hx
      go_simp
      try with_reducible rfl
    simp only [Act.put, List.setIfInBounds_toArray, List.set_cons_zero, List.set_cons_succ]
    refine wpAnyH_take (i := 4) (oi := { dst := some 22, op := Op.load 3 (Operand.tmp 21), type := 3, pos := "call.go:189", after := #[{ on := 3, ground := Ground.data }], guard := none }) (v := ?_) rfl (by kernel_rfl) (by kernel_rfl) (by kernel_rfl) (fun _ _ _ h => h) (Or.inl ⟨by rfl, ?_⟩) (by assumption) ?_
    rotate_left
    · intro W hSw
      have hn := hSw.2.cell 0
      have hx := (HK2.out.later hSw.1).cell 1
      simp only [List.getElem?_toArray, List.getElem?_cons_zero, List.getElem?_cons_succ] at hn hx
      go_simp
      try with_reducible rfl
    simp only [Act.put, List.setIfInBounds_toArray, List.set_cons_zero, List.set_cons_succ]
    refine wpAnyH_ready (rs := [5]) (by kernel_rfl) (by simp) (AllReadyH.cons (o := { dst := some 23, op := Op.call { callee := Callee.value (Operand.func 38), args := #[Operand.tmp 22], argTypes := #[3] }, type := 9, pos := "call.go:189", after := #[{ on := 4, ground := Ground.data }], guard := none }) rfl (fun K hK => ?_) AllReadyH.nil)
    have HCL := Lib.hid (HW1.out _ HD0.out.lo)
    go_simp
    refine HCL.out.mono ?_
    rintro e Wa0 ⟨rfl, hb⟩
    have HE0 := Lib.hid (HD0.out.later hb)
    clear hb HCL HD0
    refine hK.out _ _ ⟨HE0.out.lo, HE0.out.bn⟩ (fun hH2 => ?_)
    clear hK K hHeld
    refine wpAnyH_ready (rs := [6]) (by kernel_rfl) (by simp) (AllReadyH.cons (o := { dst := some 24, op := Op.call { callee := Callee.value (Operand.tmp 18), args := #[Operand.tmp 20, Operand.tmp 23], argTypes := #[4, 9] }, type := 0, pos := "call.go:189", after := #[{ on := 0, ground := Ground.data }, { on := 2, ground := Ground.data }, { on := 5, ground := Ground.data }, { on := 5, ground := Ground.chain }], guard := none }) rfl (fun K hK => ?_) AllReadyH.nil)
    have HCL := Lib.hid (addw_any pl w2.heap.size v0 L0 n0 s1 Wa0 HE0.out.ls HE0.out.lo.size (by have := HLN0.out.2; omega))
    go_simp
    refine HCL.out.mono ?_
    rintro e W1 ⟨rfl, v1, hl, hf, hnw⟩
    have HC1 := Lib.hid (HE0.out.add hl hf)
    refine hK.out _ _ ⟨HC1.out.lo, HC1.out.bn⟩ (fun hH3 => ?_)
    have HLN1 : Hid (1 ≤ (moreL n0 L0 s1).length ∧ (moreL n0 L0 s1).length ≤ 2) := Lib.hid ⟨moreL_ge HLN0.out.1, by have h1 := HLN0.out.2; have h2 := moreL_len n0 L0 s1; omega⟩
    clear hK K hl hf hnw HCL HE0 hH2 hH3
    obtain ⟨L1, hL⟩ : ∃ L, moreL n0 L0 s1 = L := ⟨_, rfl⟩
    rw [hL] at HC1 HLN1
    have HL1 := Lib.hid hL
    clear hL
    refine wpAnyH_done (by kernel_rfl) (NoPanic.normal ?_) _
    go_upto_region 6 with (fail)
    have HD1 : Hid (ShW w2 W1.drew pn pl #[.bool n0, .bool n1, .bool n2, .bool n3, .bool n4, .bool n5] v1 L1) := Lib.hid (HC1.out.later (Below.drew (Below.refl _ _)))
    refine wp_region_noPanic ?_
    refine wp_region_held_drew (S := SR w2 pn #[.bool n0, .bool n1, .bool n2, .bool n3, .bool n4, .bool n5]) (by kernel_rfl) ⟨HD1.out.lo, HD1.out.bn⟩ (fun hHeld => ?_)
    clear HC1
    refine wpAnyH_take (i := 0) (oi := { dst := some 25, op := Op.move (Operand.tmp 5), type := 77, pos := "call.go:190", after := #[], guard := none }) (v := ?_) rfl (by kernel_rfl) (by kernel_rfl) (by kernel_rfl) (fun _ _ _ h => h) (Or.inl ⟨by rfl, ?_⟩) (by assumption) ?_
    rotate_left
    · intro W hSw
      have hn := hSw.2.cell 1
      have hx := (HK2.out.later hSw.1).cell 2
      simp only [List.getElem?_toArray, List.getElem?_cons_zero, List.getElem?_cons_succ] at hn hx
      go_simp
      try with_reducible rfl
    simp only [Act.put, List.setIfInBounds_toArray, List.set_cons_zero, List.set_cons_succ]
    refine wpAnyH_take (i := 1) (oi := { dst := some 26, op := Op.fieldAddr 72 (Operand.tmp 3) 1, type := 0, pos := "call.go:190", after := #[], guard := none }) (v := ?_) rfl (by kernel_rfl) (by kernel_rfl) (by kernel_rfl) (fun _ _ _ h => h) (Or.inl ⟨by rfl, ?_⟩) (by assumption) ?_
    rotate_left
    · intro W hSw
      have hn := hSw.2.cell 1
      have hx := (HK2.out.later hSw.1).cell 2
      simp only [List.getElem?_toArray, List.getElem?_cons_zero, List.getElem?_cons_succ] at hn hx
      go_simp
      try with_reducible rfl
    simp only [Act.put, List.setIfInBounds_toArray, List.set_cons_zero, List.set_cons_succ]
    refine wpAnyH_take (i := 2) (oi := { dst := some 27, op := Op.load 4 (Operand.tmp 26), type := 4, pos := "call.go:190", after := #[{ on := 1, ground := Ground.data }], guard := none }) (v := ?_) rfl (by kernel_rfl) (by kernel_rfl) (by kernel_rfl) (fun _ _ _ h => h) (Or.inl ⟨by rfl, ?_⟩) (by assumption) ?_
    rotate_left
    · intro W hSw
      have hn := hSw.2.cell 1
      have hx := (HK2.out.later hSw.1).cell 2
      simp only [List.getElem?_toArray, List.getElem?_cons_zero, List.getElem?_cons_succ] at hn hx
      go_simp
      try with_reducible rfl
    simp only [Act.put, List.setIfInBounds_toArray, List.set_cons_zero, List.set_cons_succ]
    refine wpAnyH_take (i := 3) (oi := { dst := some 28, op := Op.fieldAddr 24 (Operand.tmp 1) 2, type := 0, pos := "call.go:190", after := #[], guard := none }) (v := ?_) rfl (by kernel_rfl) (by kernel_rfl) (by kernel_rfl) (fun _ _ _ h => h) (Or.inl ⟨by rfl, ?_⟩) (by assumption) ?_
    rotate_left
    · intro W hSw
      have hn := hSw.2.cell 1
      have hx := (HK2.out.later hSw.1).cell 2
      simp only [List.getElem?_toArray, List.getElem?_cons_zero, List.getElem?_cons_succ] at hn hx
      go_simp
      try with_reducible rfl
    simp only [Act.put, List.setIfInBounds_toArray, List.set_cons_zero, List.set_cons_succ]
    refine wpAnyH_take (i := 4) (oi := { dst := some 29, op := Op.load 9 (Operand.tmp 28), type := 9, pos := "call.go:190", after := #[{ on := 3, ground := Ground.data }], guard := none }) (v := ?_) rfl (by kernel_rfl) (by kernel_rfl) (by kernel_rfl) (fun _ _ _ h => h) (Or.inl ⟨by rfl, ?_⟩) (by assumption) ?_
    rotate_left
    · intro W hSw
      have hn := hSw.2.cell 1
      have hx := (HK2.out.later hSw.1).cell 2
      simp only [List.getElem?_toArray, List.getElem?_cons_zero, List.getElem?_cons_succ] at hn hx
      go_simp
      try with_reducible rfl
    simp only [Act.put, List.setIfInBounds_toArray, List.set_cons_zero, List.set_cons_succ]
    refine wpAnyH_ready (rs := [5]) (by kernel_rfl) (by simp) (AllReadyH.cons (o := { dst := some 30, op := Op.call { callee := Callee.value (Operand.func 39), args := #[Operand.tmp 29], argTypes := #[9] }, type := 9, pos := "call.go:190", after := #[{ on := 4, ground := Ground.data }], guard := none }) rfl (fun K hK => ?_) AllReadyH.nil)
    have HCL := Lib.hid (HW2.out _ HD1.out.lo)
    go_simp
    refine HCL.out.mono ?_
    rintro e Wa1 ⟨rfl, hb⟩
    have HE1 := Lib.hid (HD1.out.later hb)
    clear hb HCL HD1
    refine hK.out _ _ ⟨HE1.out.lo, HE1.out.bn⟩ (fun hH2 => ?_)
    clear hK K hHeld
    refine wpAnyH_ready (rs := [6]) (by kernel_rfl) (by simp) (AllReadyH.cons (o := { dst := some 31, op := Op.call { callee := Callee.value (Operand.tmp 25), args := #[Operand.tmp 27, Operand.tmp 30], argTypes := #[4, 9] }, type := 0, pos := "call.go:190", after := #[{ on := 0, ground := Ground.data }, { on := 2, ground := Ground.data }, { on := 5, ground := Ground.data }, { on := 5, ground := Ground.chain }], guard := none }) rfl (fun K hK => ?_) AllReadyH.nil)
    have HCL := Lib.hid (addw_any pl w2.heap.size v1 L1 n1 s2 Wa1 HE1.out.ls HE1.out.lo.size (by have := HLN1.out.2; omega))
    go_simp
    refine HCL.out.mono ?_
    rintro e W2 ⟨rfl, v2, hl, hf, hnw⟩
    have HC2 := Lib.hid (HE1.out.add hl hf)
    refine hK.out _ _ ⟨HC2.out.lo, HC2.out.bn⟩ (fun hH3 => ?_)
    have HLN2 : Hid (1 ≤ (moreL n1 L1 s2).length ∧ (moreL n1 L1 s2).length ≤ 3) := Lib.hid ⟨moreL_ge HLN1.out.1, by have h1 := HLN1.out.2; have h2 := moreL_len n1 L1 s2; omega⟩
    clear hK K hl hf hnw HCL HE1 hH2 hH3
    obtain ⟨L2, hL⟩ : ∃ L, moreL n1 L1 s2 = L := ⟨_, rfl⟩
    rw [hL] at HC2 HLN2
    have HL2 := Lib.hid hL
    clear hL
    refine wpAnyH_done (by kernel_rfl) (NoPanic.normal ?_) _
    go_upto_region 7 with (fail)
    have HD2 : Hid (ShW w2 W2.drew pn pl #[.bool n0, .bool n1, .bool n2, .bool n3, .bool n4, .bool n5] v2 L2) := Lib.hid (HC2.out.later (Below.drew (Below.refl _ _)))
    refine wp_region_noPanic ?_
    refine wp_region_held_drew (S := SR w2 pn #[.bool n0, .bool n1, .bool n2, .bool n3, .bool n4, .bool n5]) (by kernel_rfl) ⟨HD2.out.lo, HD2.out.bn⟩ (fun hHeld => ?_)
    clear HC2
    refine wpAnyH_take (i := 0) (oi := { dst := some 32, op := Op.move (Operand.tmp 5), type := 77, pos := "call.go:191", after := #[], guard := none }) (v := ?_) rfl (by kernel_rfl) (by kernel_rfl) (by kernel_rfl) (fun _ _ _ h => h) (Or.inl ⟨by rfl, ?_⟩) (by assumption) ?_
    rotate_left
    · intro W hSw
      have hn := hSw.2.cell 2
      have hx := (HK2.out.later hSw.1).cell 3
      simp only [List.getElem?_toArray, List.getElem?_cons_zero, List.getElem?_cons_succ] at hn hx
      go_simp
      try with_reducible rfl
    simp only [Act.put, List.setIfInBounds_toArray, List.set_cons_zero, List.set_cons_succ]
    refine wpAnyH_take (i := 1) (oi := { dst := some 33, op := Op.fieldAddr 72 (Operand.tmp 3) 2, type := 0, pos := "call.go:191", after := #[], guard := none }) (v := ?_) rfl (by kernel_rfl) (by kernel_rfl) (by kernel_rfl) (fun _ _ _ h => h) (Or.inl ⟨by rfl, ?_⟩) (by assumption) ?_
    rotate_left
    · intro W hSw
      have hn := hSw.2.cell 2
      have hx := (HK2.out.later hSw.1).cell 3
      simp only [List.getElem?_toArray, List.getElem?_cons_zero, List.getElem?_cons_succ] at hn hx
      go_simp
      try with_reducible rfl
    simp only [Act.put, List.setIfInBounds_toArray, List.set_cons_zero, List.set_cons_succ]
    refine wpAnyH_take (i := 2) (oi := { dst := some 34, op := Op.load 4 (Operand.tmp 33), type := 4, pos := "call.go:191", after := #[{ on := 1, ground := Ground.data }], guard := none }) (v := ?_) rfl (by kernel_rfl) (by kernel_rfl) (by kernel_rfl) (fun _ _ _ h => h) (Or.inl ⟨by rfl, ?_⟩) (by assumption) ?_
    rotate_left
    · intro W hSw
      have hn := hSw.2.cell 2
      have hx := (HK2.out.later hSw.1).cell 3
      simp only [List.getElem?_toArray, List.getElem?_cons_zero, List.getElem?_cons_succ] at hn hx
      go_simp
      try with_reducible rfl
    simp only [Act.put, List.setIfInBounds_toArray, List.set_cons_zero, List.set_cons_succ]
    refine wpAnyH_take (i := 3) (oi := { dst := some 35, op := Op.fieldAddr 24 (Operand.tmp 1) 3, type := 0, pos := "call.go:191", after := #[], guard := none }) (v := ?_) rfl (by kernel_rfl) (by kernel_rfl) (by kernel_rfl) (fun _ _ _ h => h) (Or.inl ⟨by rfl, ?_⟩) (by assumption) ?_
    rotate_left
    · intro W hSw
      have hn := hSw.2.cell 2
      have hx := (HK2.out.later hSw.1).cell 3
      simp only [List.getElem?_toArray, List.getElem?_cons_zero, List.getElem?_cons_succ] at hn hx
      go_simp
      try with_reducible rfl
    simp only [Act.put, List.setIfInBounds_toArray, List.set_cons_zero, List.set_cons_succ]
    refine wpAnyH_take (i := 4) (oi := { dst := some 36, op := Op.load 9 (Operand.tmp 35), type := 9, pos := "call.go:191", after := #[{ on := 3, ground := Ground.data }], guard := none }) (v := ?_) rfl (by kernel_rfl) (by kernel_rfl) (by kernel_rfl) (fun _ _ _ h => h) (Or.inl ⟨by rfl, ?_⟩) (by assumption) ?_
    rotate_left
    · intro W hSw
      have hn := hSw.2.cell 2
      have hx := (HK2.out.later hSw.1).cell 3
      simp only [List.getElem?_toArray, List.getElem?_cons_zero, List.getElem?_cons_succ] at hn hx
      go_simp
      try with_reducible rfl
    simp only [Act.put, List.setIfInBounds_toArray, List.set_cons_zero, List.set_cons_succ]
    refine wpAnyH_ready (rs := [5]) (by kernel_rfl) (by simp) (AllReadyH.cons (o := { dst := some 37, op := Op.call { callee := Callee.value (Operand.func 39), args := #[Operand.tmp 36], argTypes := #[9] }, type := 9, pos := "call.go:191", after := #[{ on := 4, ground := Ground.data }], guard := none }) rfl (fun K hK => ?_) AllReadyH.nil)
    have HCL := Lib.hid (HW3.out _ HD2.out.lo)
    go_simp
    refine HCL.out.mono ?_
    rintro e Wa2 ⟨rfl, hb⟩
    have HE2 := Lib.hid (HD2.out.later hb)
    clear hb HCL HD2
    refine hK.out _ _ ⟨HE2.out.lo, HE2.out.bn⟩ (fun hH2 => ?_)
    clear hK K hHeld
    refine wpAnyH_ready (rs := [6]) (by kernel_rfl) (by simp) (AllReadyH.cons (o := { dst := some 38, op := Op.call { callee := Callee.value (Operand.tmp 32), args := #[Operand.tmp 34, Operand.tmp 37], argTypes := #[4, 9] }, type := 0, pos := "call.go:191", after := #[{ on := 0, ground := Ground.data }, { on := 2, ground := Ground.data }, { on := 5, ground := Ground.data }, { on := 5, ground := Ground.chain }], guard := none }) rfl (fun K hK => ?_) AllReadyH.nil)
    have HCL := Lib.hid (addw_any pl w2.heap.size v2 L2 n2 s3 Wa2 HE2.out.ls HE2.out.lo.size (by have := HLN2.out.2; omega))
    go_simp
    refine HCL.out.mono ?_
    rintro e W3 ⟨rfl, v3, hl, hf, hnw⟩
    have HC3 := Lib.hid (HE2.out.add hl hf)
    refine hK.out _ _ ⟨HC3.out.lo, HC3.out.bn⟩ (fun hH3 => ?_)
    have HLN3 : Hid (1 ≤ (moreL n2 L2 s3).length ∧ (moreL n2 L2 s3).length ≤ 4) := Lib.hid ⟨moreL_ge HLN2.out.1, by have h1 := HLN2.out.2; have h2 := moreL_len n2 L2 s3; omega⟩
    clear hK K hl hf hnw HCL HE2 hH2 hH3
    obtain ⟨L3, hL⟩ : ∃ L, moreL n2 L2 s3 = L := ⟨_, rfl⟩
    rw [hL] at HC3 HLN3
    have HL3 := Lib.hid hL
    clear hL
    refine wpAnyH_done (by kernel_rfl) (NoPanic.normal ?_) _
    go_upto_region 8 with (fail)
    have HD3 : Hid (ShW w2 W3.drew pn pl #[.bool n0, .bool n1, .bool n2, .bool n3, .bool n4, .bool n5] v3 L3) := Lib.hid (HC3.out.later (Below.drew (Below.refl _ _)))
    refine wp_region_noPanic ?_
    refine wp_region_held_drew (S := SR w2 pn #[.bool n0, .bool n1, .bool n2, .bool n3, .bool n4, .bool n5]) (by kernel_rfl) ⟨HD3.out.lo, HD3.out.bn⟩ (fun hHeld => ?_)
    clear HC3
    refine wpAnyH_take (i := 0) (oi := { dst := some 39, op := Op.move (Operand.tmp 5), type := 77, pos := "call.go:192", after := #[], guard := none }) (v := ?_) rfl (by kernel_rfl) (by kernel_rfl) (by kernel_rfl) (fun _ _ _ h => h) (Or.inl ⟨by rfl, ?_⟩) (by assumption) ?_
    rotate_left
    · intro W hSw
      have hn := hSw.2.cell 3
      have hx := (HK2.out.later hSw.1).cell 4
      simp only [List.getElem?_toArray, List.getElem?_cons_zero, List.getElem?_cons_succ] at hn hx
      go_simp
      try with_reducible rfl
    simp only [Act.put, List.setIfInBounds_toArray, List.set_cons_zero, List.set_cons_succ]
    refine wpAnyH_take (i := 1) (oi := { dst := some 40, op := Op.fieldAddr 72 (Operand.tmp 3) 3, type := 0, pos := "call.go:192", after := #[], guard := none }) (v := ?_) rfl (by kernel_rfl) (by kernel_rfl) (by kernel_rfl) (fun _ _ _ h => h) (Or.inl ⟨by rfl, ?_⟩) (by assumption) ?_
    rotate_left
    · intro W hSw
      have hn := hSw.2.cell 3
      have hx := (HK2.out.later hSw.1).cell 4
      simp only [List.getElem?_toArray, List.getElem?_cons_zero, List.getElem?_cons_succ] at hn hx
      go_simp
      try with_reducible rfl
    simp only [Act.put, List.setIfInBounds_toArray, List.set_cons_zero, List.set_cons_succ]
    refine wpAnyH_take (i := 2) (oi := { dst := some 41, op := Op.load 4 (Operand.tmp 40), type := 4, pos := "call.go:192", after := #[{ on := 1, ground := Ground.data }], guard := none }) (v := ?_) rfl (by kernel_rfl) (by kernel_rfl) (by kernel_rfl) (fun _ _ _ h => h) (Or.inl ⟨by rfl, ?_⟩) (by assumption) ?_
    rotate_left
    · intro W hSw
      have hn := hSw.2.cell 3
      have hx := (HK2.out.later hSw.1).cell 4
      simp only [List.getElem?_toArray, List.getElem?_cons_zero, List.getElem?_cons_succ] at hn hx
      go_simp
      try with_reducible rfl
    simp only [Act.put, List.setIfInBounds_toArray, List.set_cons_zero, List.set_cons_succ]
    refine wpAnyH_take (i := 3) (oi := { dst := some 42, op := Op.fieldAddr 24 (Operand.tmp 1) 4, type := 0, pos := "call.go:192", after := #[], guard := none }) (v := ?_) rfl (by kernel_rfl) (by kernel_rfl) (by kernel_rfl) (fun _ _ _ h => h) (Or.inl ⟨by rfl, ?_⟩) (by assumption) ?_
    rotate_left
    · intro W hSw
      have hn := hSw.2.cell 3
      have hx := (HK2.out.later hSw.1).cell 4
      simp only [List.getElem?_toArray, List.getElem?_cons_zero, List.getElem?_cons_succ] at hn hx
      go_simp
      try with_reducible rfl
    simp only [Act.put, List.setIfInBounds_toArray, List.set_cons_zero, List.set_cons_succ]
    refine wpAnyH_take (i := 4) (oi := { dst := some 43, op := Op.load 9 (Operand.tmp 42), type := 9, pos := "call.go:192", after := #[{ on := 3, ground := Ground.data }], guard := none }) (v := ?_) rfl (by kernel_rfl) (by kernel_rfl) (by kernel_rfl) (fun _ _ _ h => h) (Or.inl ⟨by rfl, ?_⟩) (by assumption) ?_
    rotate_left
    · intro W hSw
      have hn := hSw.2.cell 3
      have hx := (HK2.out.later hSw.1).cell 4
      simp only [List.getElem?_toArray, List.getElem?_cons_zero, List.getElem?_cons_succ] at hn hx
      go_simp
      try with_reducible rfl
    simp only [Act.put, List.setIfInBounds_toArray, List.set_cons_zero, List.set_cons_succ]
    refine wpAnyH_ready (rs := [5]) (by kernel_rfl) (by simp) (AllReadyH.cons (o := { dst := some 44, op := Op.call { callee := Callee.value (Operand.func 39), args := #[Operand.tmp 43], argTypes := #[9] }, type := 9, pos := "call.go:192", after := #[{ on := 4, ground := Ground.data }], guard := none }) rfl (fun K hK => ?_) AllReadyH.nil)
    have HCL := Lib.hid (HW4.out _ HD3.out.lo)
    go_simp
    refine HCL.out.mono ?_
    rintro e Wa3 ⟨rfl, hb⟩
    have HE3 := Lib.hid (HD3.out.later hb)
    clear hb HCL HD3
    refine hK.out _ _ ⟨HE3.out.lo, HE3.out.bn⟩ (fun hH2 => ?_)
    clear hK K hHeld
    refine wpAnyH_ready (rs := [6]) (by kernel_rfl) (by simp) (AllReadyH.cons (o := { dst := some 45, op := Op.call { callee := Callee.value (Operand.tmp 39), args := #[Operand.tmp 41, Operand.tmp 44], argTypes := #[4, 9] }, type := 0, pos := "call.go:192", after := #[{ on := 0, ground := Ground.data }, { on := 2, ground := Ground.data }, { on := 5, ground := Ground.data }, { on := 5, ground := Ground.chain }], guard := none }) rfl (fun K hK => ?_) AllReadyH.nil)
    have HCL := Lib.hid (addw_any pl w2.heap.size v3 L3 n3 s4 Wa3 HE3.out.ls HE3.out.lo.size (by have := HLN3.out.2; omega))
    go_simp
    refine HCL.out.mono ?_
    rintro e W4 ⟨rfl, v4, hl, hf, hnw⟩
    have HC4 := Lib.hid (HE3.out.add hl hf)
    refine hK.out _ _ ⟨HC4.out.lo, HC4.out.bn⟩ (fun hH3 => ?_)
    have HLN4 : Hid (1 ≤ (moreL n3 L3 s4).length ∧ (moreL n3 L3 s4).length ≤ 5) := Lib.hid ⟨moreL_ge HLN3.out.1, by have h1 := HLN3.out.2; have h2 := moreL_len n3 L3 s4; omega⟩
    clear hK K hl hf hnw HCL HE3 hH2 hH3
    obtain ⟨L4, hL⟩ : ∃ L, moreL n3 L3 s4 = L := ⟨_, rfl⟩
    rw [hL] at HC4 HLN4
    have HL4 := Lib.hid hL
    clear hL
    refine wpAnyH_done (by kernel_rfl) (NoPanic.normal ?_) _
    go_upto_region 9 with (fail)
    have HD4 : Hid (ShW w2 W4.drew pn pl #[.bool n0, .bool n1, .bool n2, .bool n3, .bool n4, .bool n5] v4 L4) := Lib.hid (HC4.out.later (Below.drew (Below.refl _ _)))
    refine wp_region_noPanic ?_
    refine wp_region_held_drew (S := SR w2 pn #[.bool n0, .bool n1, .bool n2, .bool n3, .bool n4, .bool n5]) (by kernel_rfl) ⟨HD4.out.lo, HD4.out.bn⟩ (fun hHeld => ?_)
    clear HC4
    refine wpAnyH_take (i := 0) (oi := { dst := some 46, op := Op.move (Operand.tmp 5), type := 77, pos := "call.go:193", after := #[], guard := none }) (v := ?_) rfl (by kernel_rfl) (by kernel_rfl) (by kernel_rfl) (fun _ _ _ h => h) (Or.inl ⟨by rfl, ?_⟩) (by assumption) ?_
    rotate_left
    · intro W hSw
      have hn := hSw.2.cell 4
      have hx := (HK2.out.later hSw.1).cell 5
      simp only [List.getElem?_toArray, List.getElem?_cons_zero, List.getElem?_cons_succ] at hn hx
      go_simp
      try with_reducible rfl
    simp only [Act.put, List.setIfInBounds_toArray, List.set_cons_zero, List.set_cons_succ]
    refine wpAnyH_take (i := 1) (oi := { dst := some 47, op := Op.fieldAddr 72 (Operand.tmp 3) 4, type := 0, pos := "call.go:193", after := #[], guard := none }) (v := ?_) rfl (by kernel_rfl) (by kernel_rfl) (by kernel_rfl) (fun _ _ _ h => h) (Or.inl ⟨by rfl, ?_⟩) (by assumption) ?_
    rotate_left
    · intro W hSw
      have hn := hSw.2.cell 4
      have hx := (HK2.out.later hSw.1).cell 5
      simp only [List.getElem?_toArray, List.getElem?_cons_zero, List.getElem?_cons_succ] at hn hx
      go_simp
      try with_reducible rfl
    simp only [Act.put, List.setIfInBounds_toArray, List.set_cons_zero, List.set_cons_succ]
    refine wpAnyH_take (i := 2) (oi := { dst := some 48, op := Op.load 4 (Operand.tmp 47), type := 4, pos := "call.go:193", after := #[{ on := 1, ground := Ground.data }], guard := none }) (v := ?_) rfl (by kernel_rfl) (by kernel_rfl) (by kernel_rfl) (fun _ _ _ h => h) (Or.inl ⟨by rfl, ?_⟩) (by assumption) ?_
    rotate_left
    · intro W hSw
      have hn := hSw.2.cell 4
      have hx := (HK2.out.later hSw.1).cell 5
      simp only [List.getElem?_toArray, List.getElem?_cons_zero, List.getElem?_cons_succ] at hn hx
      go_simp
      try with_reducible rfl
    simp only [Act.put, List.setIfInBounds_toArray, List.set_cons_zero, List.set_cons_succ]
    refine wpAnyH_take (i := 3) (oi := { dst := some 49, op := Op.fieldAddr 24 (Operand.tmp 1) 5, type := 0, pos := "call.go:193", after := #[], guard := none }) (v := ?_) rfl (by kernel_rfl) (by kernel_rfl) (by kernel_rfl) (fun _ _ _ h => h) (Or.inl ⟨by rfl, ?_⟩) (by assumption) ?_
    rotate_left
    · intro W hSw
      have hn := hSw.2.cell 4
      have hx := (HK2.out.later hSw.1).cell 5
      simp only [List.getElem?_toArray, List.getElem?_cons_zero, List.getElem?_cons_succ] at hn hx
      go_simp
      try with_reducible rfl
    simp only [Act.put, List.setIfInBounds_toArray, List.set_cons_zero, List.set_cons_succ]
    refine wpAnyH_take (i := 4) (oi := { dst := some 50, op := Op.load 3 (Operand.tmp 49), type := 3, pos := "call.go:193", after := #[{ on := 3, ground := Ground.data }], guard := none }) (v := ?_) rfl (by kernel_rfl) (by kernel_rfl) (by kernel_rfl) (fun _ _ _ h => h) (Or.inl ⟨by rfl, ?_⟩) (by assumption) ?_
    rotate_left
    · intro W hSw
      have hn := hSw.2.cell 4
      have hx := (HK2.out.later hSw.1).cell 5
      simp only [List.getElem?_toArray, List.getElem?_cons_zero, List.getElem?_cons_succ] at hn hx
      go_simp
      try with_reducible rfl
    simp only [Act.put, List.setIfInBounds_toArray, List.set_cons_zero, List.set_cons_succ]
    refine wpAnyH_ready (rs := [5]) (by kernel_rfl) (by simp) (AllReadyH.cons (o := { dst := some 51, op := Op.call { callee := Callee.value (Operand.func 38), args := #[Operand.tmp 50], argTypes := #[3] }, type := 9, pos := "call.go:193", after := #[{ on := 4, ground := Ground.data }], guard := none }) rfl (fun K hK => ?_) AllReadyH.nil)
    have HCL := Lib.hid (HW5.out _ HD4.out.lo)
    go_simp
    refine HCL.out.mono ?_
    rintro e Wa4 ⟨rfl, hb⟩
    have HE4 := Lib.hid (HD4.out.later hb)
    clear hb HCL HD4
    refine hK.out _ _ ⟨HE4.out.lo, HE4.out.bn⟩ (fun hH2 => ?_)
    clear hK K hHeld
    refine wpAnyH_ready (rs := [6]) (by kernel_rfl) (by simp) (AllReadyH.cons (o := { dst := some 52, op := Op.call { callee := Callee.value (Operand.tmp 46), args := #[Operand.tmp 48, Operand.tmp 51], argTypes := #[4, 9] }, type := 0, pos := "call.go:193", after := #[{ on := 0, ground := Ground.data }, { on := 2, ground := Ground.data }, { on := 5, ground := Ground.data }, { on := 5, ground := Ground.chain }], guard := none }) rfl (fun K hK => ?_) AllReadyH.nil)
    have HCL := Lib.hid (addw_any pl w2.heap.size v4 L4 n4 s5 Wa4 HE4.out.ls HE4.out.lo.size (by have := HLN4.out.2; omega))
    go_simp
    refine HCL.out.mono ?_
    rintro e W5 ⟨rfl, v5, hl, hf, hnw⟩
    have HC5 := Lib.hid (HE4.out.add hl hf)
    refine hK.out _ _ ⟨HC5.out.lo, HC5.out.bn⟩ (fun hH3 => ?_)
    have HLN5 : Hid (1 ≤ (moreL n4 L4 s5).length ∧ (moreL n4 L4 s5).length ≤ 6) := Lib.hid ⟨moreL_ge HLN4.out.1, by have h1 := HLN4.out.2; have h2 := moreL_len n4 L4 s5; omega⟩
    clear hK K hl hf hnw HCL HE4 hH2 hH3
    obtain ⟨L5, hL⟩ : ∃ L, moreL n4 L4 s5 = L := ⟨_, rfl⟩
    rw [hL] at HC5 HLN5
    have HL5 := Lib.hid hL
    clear hL
    refine wpAnyH_done (by kernel_rfl) (NoPanic.normal ?_) _
    go_upto_region 10 with (fail)
    have HD5 : Hid (ShW w2 W5.drew pn pl #[.bool n0, .bool n1, .bool n2, .bool n3, .bool n4, .bool n5] v5 L5) := Lib.hid (HC5.out.later (Below.drew (Below.refl _ _)))
    refine wp_region_noPanic ?_
    refine wp_region_held_drew (S := SR w2 pn #[.bool n0, .bool n1, .bool n2, .bool n3, .bool n4, .bool n5]) (by kernel_rfl) ⟨HD5.out.lo, HD5.out.bn⟩ (fun hHeld => ?_)
    clear HC5
    refine wpAnyH_take (i := 0) (oi := { dst := some 53, op := Op.move (Operand.tmp 5), type := 77, pos := "call.go:194", after := #[], guard := none }) (v := ?_) rfl (by kernel_rfl) (by kernel_rfl) (by kernel_rfl) (fun _ _ _ h => h) (Or.inl ⟨by rfl, ?_⟩) (by assumption) ?_
    rotate_left
    · intro W hSw
      have hn := hSw.2.cell 5
      have hx := (HK2.out.later hSw.1).cell 6
      simp only [List.getElem?_toArray, List.getElem?_cons_zero, List.getElem?_cons_succ] at hn hx
      go_simp
      try with_reducible rfl
    simp only [Act.put, List.setIfInBounds_toArray, List.set_cons_zero, List.set_cons_succ]
    refine wpAnyH_take (i := 1) (oi := { dst := some 54, op := Op.fieldAddr 72 (Operand.tmp 3) 5, type := 0, pos := "call.go:194", after := #[], guard := none }) (v := ?_) rfl (by kernel_rfl) (by kernel_rfl) (by kernel_rfl) (fun _ _ _ h => h) (Or.inl ⟨by rfl, ?_⟩) (by assumption) ?_
    rotate_left
    · intro W hSw
      have hn := hSw.2.cell 5
      have hx := (HK2.out.later hSw.1).cell 6
      simp only [List.getElem?_toArray, List.getElem?_cons_zero, List.getElem?_cons_succ] at hn hx
      go_simp
      try with_reducible rfl
    simp only [Act.put, List.setIfInBounds_toArray, List.set_cons_zero, List.set_cons_succ]
    refine wpAnyH_take (i := 2) (oi := { dst := some 55, op := Op.load 4 (Operand.tmp 54), type := 4, pos := "call.go:194", after := #[{ on := 1, ground := Ground.data }], guard := none }) (v := ?_) rfl (by kernel_rfl) (by kernel_rfl) (by kernel_rfl) (fun _ _ _ h => h) (Or.inl ⟨by rfl, ?_⟩) (by assumption) ?_
    rotate_left
    · intro W hSw
      have hn := hSw.2.cell 5
      have hx := (HK2.out.later hSw.1).cell 6
      simp only [List.getElem?_toArray, List.getElem?_cons_zero, List.getElem?_cons_succ] at hn hx
      go_simp
      try with_reducible rfl
    simp only [Act.put, List.setIfInBounds_toArray, List.set_cons_zero, List.set_cons_succ]
    refine wpAnyH_take (i := 3) (oi := { dst := some 56, op := Op.fieldAddr 24 (Operand.tmp 1) 6, type := 0, pos := "call.go:194", after := #[], guard := none }) (v := ?_) rfl (by kernel_rfl) (by kernel_rfl) (by kernel_rfl) (fun _ _ _ h => h) (Or.inl ⟨by rfl, ?_⟩) (by assumption) ?_
    rotate_left
    · intro W hSw
      have hn := hSw.2.cell 5
      have hx := (HK2.out.later hSw.1).cell 6
      simp only [List.getElem?_toArray, List.getElem?_cons_zero, List.getElem?_cons_succ] at hn hx
      go_simp
      try with_reducible rfl
    simp only [Act.put, List.setIfInBounds_toArray, List.set_cons_zero, List.set_cons_succ]
    refine wpAnyH_take (i := 4) (oi := { dst := some 57, op := Op.load 5 (Operand.tmp 56), type := 5, pos := "call.go:194", after := #[{ on := 3, ground := Ground.data }], guard := none }) (v := ?_) rfl (by kernel_rfl) (by kernel_rfl) (by kernel_rfl) (fun _ _ _ h => h) (Or.inl ⟨by rfl, ?_⟩) (by assumption) ?_
    rotate_left
    · intro W hSw
      have hn := hSw.2.cell 5
      have hx := (HK2.out.later hSw.1).cell 6
      simp only [List.getElem?_toArray, List.getElem?_cons_zero, List.getElem?_cons_succ] at hn hx
      go_simp
      try with_reducible rfl
    simp only [Act.put, List.setIfInBounds_toArray, List.set_cons_zero, List.set_cons_succ]
    refine wpAnyH_take (i := 5) (oi := { dst := some 58, op := Op.convert 5 3 (Operand.tmp 57), type := 3, pos := "call.go:194", after := #[{ on := 4, ground := Ground.data }], guard := none }) (v := ?_) rfl (by kernel_rfl) (by kernel_rfl) (by kernel_rfl) (fun _ _ _ h => h) (Or.inl ⟨by rfl, ?_⟩) (by assumption) ?_
    rotate_left
    · intro W hSw
      have hn := hSw.2.cell 5
      have hx := (HK2.out.later hSw.1).cell 6
      simp only [List.getElem?_toArray, List.getElem?_cons_zero, List.getElem?_cons_succ] at hn hx
      go_simp
      try with_reducible rfl
    simp only [Act.put, List.setIfInBounds_toArray, List.set_cons_zero, List.set_cons_succ]
    refine wpAnyH_ready (rs := [6]) (by kernel_rfl) (by simp) (AllReadyH.cons (o := { dst := some 59, op := Op.call { callee := Callee.value (Operand.func 38), args := #[Operand.tmp 58], argTypes := #[3] }, type := 9, pos := "call.go:194", after := #[{ on := 5, ground := Ground.data }], guard := none }) rfl (fun K hK => ?_) AllReadyH.nil)
    have HCL := Lib.hid (HW6.out _ HD5.out.lo)
    go_simp
    refine HCL.out.mono ?_
    rintro e Wa5 ⟨rfl, hb⟩
    have HE5 := Lib.hid (HD5.out.later hb)
    clear hb HCL HD5
    refine hK.out _ _ ⟨HE5.out.lo, HE5.out.bn⟩ (fun hH2 => ?_)
    clear hK K hHeld
    refine wpAnyH_ready (rs := [7]) (by kernel_rfl) (by simp) (AllReadyH.cons (o := { dst := some 60, op := Op.call { callee := Callee.value (Operand.tmp 53), args := #[Operand.tmp 55, Operand.tmp 59], argTypes := #[4, 9] }, type := 0, pos := "call.go:194", after := #[{ on := 0, ground := Ground.data }, { on := 2, ground := Ground.data }, { on := 6, ground := Ground.data }, { on := 6, ground := Ground.chain }], guard := none }) rfl (fun K hK => ?_) AllReadyH.nil)
    have HCL := Lib.hid (addw_any pl w2.heap.size v5 L5 n5 s6 Wa5 HE5.out.ls HE5.out.lo.size (by have := HLN5.out.2; omega))
    go_simp
    refine HCL.out.mono ?_
    rintro e W6 ⟨rfl, v6, hl, hf, hnw⟩
    have HC6 := Lib.hid (HE5.out.add hl hf)
    refine hK.out _ _ ⟨HC6.out.lo, HC6.out.bn⟩ (fun hH3 => ?_)
    have HLN6 : Hid (1 ≤ (moreL n5 L5 s6).length ∧ (moreL n5 L5 s6).length ≤ 7) := Lib.hid ⟨moreL_ge HLN5.out.1, by have h1 := HLN5.out.2; have h2 := moreL_len n5 L5 s6; omega⟩
    clear hK K hl hf hnw HCL HE5 hH2 hH3
    obtain ⟨L6, hL⟩ : ∃ L, moreL n5 L5 s6 = L := ⟨_, rfl⟩
    rw [hL] at HC6 HLN6
    have HL6 := Lib.hid hL
    clear hL
    refine wpAnyH_done (by kernel_rfl) (NoPanic.normal ?_) _
    go_upto_region 11 with (fail)
    have HBE : Hid (Below w.heap.size w W6) := Lib.hid (stepB HBW.out HC6.out.lo)
    have HJ6 : Hid (joinW L6 = J) := Lib.hid (by
      rw [← HJ.out, HLX.out]
      unfold showN
      simp only
      rw [HL0.out, HL1.out, HL2.out, HL3.out, HL4.out, HL5.out, HL6.out])
    have c0 := HC6.out.ls.blk.cell 0
    simp only [List.getElem?_toArray, List.getElem?_cons_zero, List.getElem?_cons_succ] at c0
    obtain ⟨A6, k6, rfl, hsl⟩ := Ow.sl HC6.out.ls.row
    obtain ⟨g, off, rfl, hg6, hcs⟩ := hsl.rd.2 (by have := HLN6.out.1; omega)
    have hjn := join_any g off k6 L6 W6 hcs hg6 (by have := HLN6.out.2; omega) hsl.le (by rw [HJ6.out]; exact HJL.out)
    rw [HJ6.out] at hjn
    have HJN := Lib.hid hjn
    clear hjn hsl hcs hg6 HC6 HW1 HW2 HW3 HW4 HW5 HW6 HL1 HL2 HL3 HL4 HL5 HL6 HLN1 HLN2 HLN3 HLN4 HLN5 HLN6 HJ HLX HJL HG2 HK2 HLN0
    generalize L6.length = m6 at *
    go_wp2_with fail
    refine HJN.out.mono ?_
    rintro e W7 ⟨rfl, hb⟩
    have HBF := Lib.hid (stepB HBE.out hb)
    clear hb HJN
    go_wp2
    go_ret
    exact ⟨rfl, HBF.out⟩
end Go.Proofs.YtkgdmdcnhbaidaaDoor
