/- The document's Copy. -/
import Derived.Test.YtbnbhhmgfogjeaaJZ6
import Derived.Test.YtbnbhhmgfogjeaaJT
namespace Go.Proofs.Ytbnbhhmgfogjeaa
open Go.ChangeShapes Go.WideShapes Go.ChangeAt Go.RowKit Go.Maps
set_option linter.unusedVariables false
set_option linter.unusedSimpArgs false

/-- how far a chain is: nothing, an empty row, the row -/
def Ch {α : Type} (enc : α → Value) (B : Nat) (e : TypeId) (n : Nat) (xs : List α) : Nat → Value → Value → World → Prop
  | 0, u, v, w => u = undef ∧ v = undef
  | 1, u, v, w => v = undef ∧ Ow enc w B e u 0 []
  | _, u, v, w => Ow enc w B e v n xs
def lCpq : List Nat := [0, 1, 2, 3, 5, 6, 7, 8, 11, 12, 13, 14, 17, 18, 19, 20]
def lCp (i j k : Nat) : Array Bool := (Array.range 25).map fun o => lCpq.contains o || (o == 4 && decide (1 ≤ i)) || (o == 9 && decide (2 ≤ i)) || (o == 10 && decide (1 ≤ j)) || (o == 15 && decide (2 ≤ j)) || (o == 16 && decide (1 ≤ k)) || (o == 21 && decide (2 ≤ k))
def pCp (i : Nat) : Nat := if i = 0 then 4 else 9
def qCp (i : Nat) : Nat := if i = 0 then 10 else 15
def rCp (i : Nat) : Nat := if i = 0 then 16 else 21
theorem ow_grown_none {α : Type} {enc : α → Value} {W W' : World} {B n : Nat} {e : TypeId} {v : Value} {xs : List α} (h : Ow enc W B e v n xs) (hg : W.grownBy W' Option.none) : Ow enc W' B e v n xs :=
  World.ownsRow.kept h hg (by cases h0 : v.ownBlock <;> simp)
theorem ow_grown_tag {α β : Type} {enc : α → Value} {enc2 : β → Value} {W W' : World} {B B2 n n2 : Nat} {e e2 : TypeId} {v v2 : Value} {xs : List α} {ys : List β} (h : Ow enc W B e v n xs) (h2 : Ow enc2 W B2 e2 v2 n2 ys) (hne : e ≠ e2) (hg : W.grownBy W' v2.ownBlock) : Ow enc W' B e v n xs :=
  World.ownsRow.kept h hg (by
    cases h0 : v.ownBlock with
    | none => exact .inl rfl
    | some k =>
      right; intro e3
      obtain ⟨c1, t1⟩ := Ow.tag h k h0
      obtain ⟨c2, t2⟩ := Ow.tag h2 k e3.symm
      rw [t1] at t2
      cases t2
      exact hne rfl)
theorem Ch.keep {α : Type} {enc : α → Value} {B n : Nat} {e : TypeId} {xs : List α} {i : Nat} {u v : Value} {W W' : World} (h : Ch enc B e n xs i u v W) (hk : ∀ (v : Value) (n : Nat) (xs : List α), Ow enc W B e v n xs → Ow enc W' B e v n xs) : Ch enc B e n xs i u v W' := by
  match i, h with
  | 0, h => exact h
  | 1, h => exact ⟨h.1, hk _ _ _ h.2⟩
  | i + 2, h => exact hk _ _ _ h
theorem wpAnyH_cast {P : Program} {md : Region.Mode} {ops : Array Oper} {Q : Exit → Act → World → Prop} {S : World → Prop} {f f' : Nat} {l l' : Array Bool} {x : Act} {w : World} (h1 : f' = f) (h2 : l' = l) (h : wpAnyH P md ops Q S f l x w) : wpAnyH P md ops Q S f' l' x w := by subst h1 h2; exact h

/-- what is read of the page, and all that was stays -/
abbrev SD (w : World) (q s : Nat) (vB vU vK : Value) (W : World) : Prop := Below w.heap.size w W ∧ W.cell? ⟨q, 0, none⟩ = some (.int .i64 (s : Int)) ∧ W.cell? ⟨q, 1, none⟩ = some vB ∧ W.cell? ⟨q, 2, none⟩ = some vU ∧ W.cell? ⟨q, 3, none⟩ = some vK
theorem SD.of {w W : World} {B q s : Nat} {Bs : List ByteArray} {Us : List Bool} {Bk : List Nat} {vB vU vK : Value} (h : Dx w B q s Bs Us Bk vB vU vK) (hb : Below w.heap.size w W) : SD w q s vB vU vK W := by
  have b := h.blk.later hb
  have c0 := b.cell 0
  have c1 := b.cell 1
  have c2 := b.cell 2
  have c3 := b.cell 3
  simp only [List.getElem?_toArray, List.getElem?_cons_zero, List.getElem?_cons_succ] at c0 c1 c2 c3
  exact ⟨hb, c0, c1, c2, c3⟩
def CpD (s : Nat) (st : PS) (w : World) (e : Ending) (w' : World) : Prop := ∃ q Bs Us Bk vB vU vK, e = .returned (.pointer (some ⟨q, 0, none⟩)) ∧ Dx w' w.heap.size q s Bs Us Bk vB vU vK ∧ Rel s st Bs Us Bk ∧ Below w.heap.size w w'
set_option maxRecDepth 100000 in
set_option maxHeartbeats 4000000 in
theorem dcopy_any (B q s : Nat) (st : PS) (Bs : List ByteArray) (Us : List Bool) (Bk : List Nat) (vB vU vK : Value) (w : World) (h : Dx w B q s Bs Us Bk vB vU vK) (hr : Rel s st Bs Us Bk) (hi : InvS s st) (hs4 : s ≤ 4096) : Calls Try.prog 46 #[.pointer (some ⟨q, 0, none⟩)] w (CpD s st w) := by
  obtain ⟨m, C, bs, F⟩ := st
  have hs := Inv.s2 hi
  have hms : m * s ≤ 4096 := Inv.le hi
  have hm2 : m * 2 ≤ m * s := Nat.mul_le_mul_left _ hs
  have hct : C.length + F.length = m := Inv.ct hi
  have hbk : F = Bk.reverse.map (fun k => k * s) := hr.bk.symm
  have hbl : F.length = Bk.length := by rw [hbk]; simp
  have hul : Us.length = m := hr.um
  have hbm : Bs.length = m := hr.bm
  have hBk : Bk.length ≤ 4096 := by omega
  have hm4 : m ≤ 4096 := by omega
  have HRL := Lib.hid hr
  have HD := Lib.hid h
  have K0 : Hid (SD w q s vB vU vK w) := SD.of h (Below.refl _ _)
  obtain ⟨AB, cB, rfl, sB⟩ := Ow.sl h.oB
  obtain ⟨AU, cU, rfl, sU⟩ := Ow.sl h.oU
  obtain ⟨AK, cK, rfl, sK⟩ := h.oK.sl
  obtain ⟨n, hn⟩ : ∃ n, m = n := ⟨_, rfl⟩
  obtain ⟨k, hk⟩ : ∃ k, Bk.length = k := ⟨_, rfl⟩
  have HN : Hid (Bs.length = n ∧ Us.length = n ∧ Bk.length = k) := ⟨by omega, by omega, hk⟩
  rw [HN.out.1] at K0 sB
  rw [HN.out.2.1] at K0 sU
  rw [HN.out.2.2] at K0 sK
  have SB0 := Lib.hid sB
  have SU0 := Lib.hid sU
  have SK0 := Lib.hid sK
  have hn4 : n ≤ 4096 := by omega
  have hk4 : k ≤ 4096 := by omega
  clear h hr hi hms hm2 hct hbk hbl hul hbm hBk sB sU sK hn hk hm4
  go_enter Try.func46, Try.ntmps46
  go_upto_region 1 with (fail)
  refine wp_region_noPanic ?_
  refine wp_region_held_drew (S := SD w q s (.slice AB n cB) (.slice AU n cU) (.slice AK k cK)) (by kernel_rfl) ⟨Below.drew K0.out.1, K0.out.2⟩ (fun hHeld => ?_)
  refine wpAnyH_take (i := 0) (oi := { dst := some 3, op := Op.move (Operand.tmp 0), type := 85, pos := "ref.go:104", after := #[], guard := none }) (v := ?_) rfl (by kernel_rfl) (by kernel_rfl) (by kernel_rfl) (fun _ _ _ h => h) (Or.inl ⟨by rfl, ?_⟩) (by assumption) ?_
  rotate_left
  · intro W hSw
    obtain ⟨_, k0, k1, k2, k3⟩ := hSw
    go_simp
    try with_reducible rfl
  simp only [Act.put, List.setIfInBounds_toArray, List.set_cons_zero, List.set_cons_succ]
  refine wpAnyH_take (i := 1) (oi := { dst := some 4, op := Op.nilCheck (Operand.tmp 3), type := 0, pos := "ref.go:104", after := #[{ on := 0, ground := Ground.data }], guard := none }) (v := ?_) rfl (by kernel_rfl) (by kernel_rfl) (by kernel_rfl) (fun _ _ _ h => h) (Or.inl ⟨by rfl, ?_⟩) (by assumption) ?_
  rotate_left
  · intro W hSw
    obtain ⟨_, k0, k1, k2, k3⟩ := hSw
    go_simp
    try with_reducible rfl
  simp only [Act.put, List.setIfInBounds_toArray, List.set_cons_zero, List.set_cons_succ]
  refine wpAnyH_take (i := 2) (oi := { dst := some 5, op := Op.fieldAddr 107 (Operand.tmp 4) 0, type := 0, pos := "ref.go:104", after := #[{ on := 1, ground := Ground.data }], guard := none }) (v := ?_) rfl (by kernel_rfl) (by kernel_rfl) (by kernel_rfl) (fun _ _ _ h => h) (Or.inl ⟨by rfl, ?_⟩) (by assumption) ?_
  rotate_left
  · intro W hSw
    obtain ⟨_, k0, k1, k2, k3⟩ := hSw
    go_simp
    try with_reducible rfl
  simp only [Act.put, List.setIfInBounds_toArray, List.set_cons_zero, List.set_cons_succ]
  refine wpAnyH_take (i := 3) (oi := { dst := some 6, op := Op.load 3 (Operand.tmp 5), type := 3, pos := "ref.go:104", after := #[{ on := 2, ground := Ground.data }], guard := none }) (v := ?_) rfl (by kernel_rfl) (by kernel_rfl) (by kernel_rfl) (fun _ _ _ h => h) (Or.inl ⟨by rfl, ?_⟩) (by assumption) ?_
  rotate_left
  · intro W hSw
    obtain ⟨_, k0, k1, k2, k3⟩ := hSw
    go_simp
    try with_reducible rfl
  simp only [Act.put, List.setIfInBounds_toArray, List.set_cons_zero, List.set_cons_succ]
  refine wpAnyH_take (i := 5) (oi := { dst := some 8, op := Op.move (Operand.tmp 0), type := 85, pos := "ref.go:104", after := #[], guard := none }) (v := ?_) rfl (by kernel_rfl) (by kernel_rfl) (by kernel_rfl) (fun _ _ _ h => h) (Or.inl ⟨by rfl, ?_⟩) (by assumption) ?_
  rotate_left
  · intro W hSw
    obtain ⟨_, k0, k1, k2, k3⟩ := hSw
    go_simp
    try with_reducible rfl
  simp only [Act.put, List.setIfInBounds_toArray, List.set_cons_zero, List.set_cons_succ]
  refine wpAnyH_take (i := 6) (oi := { dst := some 9, op := Op.nilCheck (Operand.tmp 8), type := 0, pos := "ref.go:104", after := #[{ on := 5, ground := Ground.data }], guard := none }) (v := ?_) rfl (by kernel_rfl) (by kernel_rfl) (by kernel_rfl) (fun _ _ _ h => h) (Or.inl ⟨by rfl, ?_⟩) (by assumption) ?_
  rotate_left
  · intro W hSw
    obtain ⟨_, k0, k1, k2, k3⟩ := hSw
    go_simp
    try with_reducible rfl
  simp only [Act.put, List.setIfInBounds_toArray, List.set_cons_zero, List.set_cons_succ]
  refine wpAnyH_take (i := 7) (oi := { dst := some 10, op := Op.fieldAddr 107 (Operand.tmp 9) 1, type := 0, pos := "ref.go:104", after := #[{ on := 6, ground := Ground.data }], guard := none }) (v := ?_) rfl (by kernel_rfl) (by kernel_rfl) (by kernel_rfl) (fun _ _ _ h => h) (Or.inl ⟨by rfl, ?_⟩) (by assumption) ?_
  rotate_left
  · intro W hSw
    obtain ⟨_, k0, k1, k2, k3⟩ := hSw
    go_simp
    try with_reducible rfl
  simp only [Act.put, List.setIfInBounds_toArray, List.set_cons_zero, List.set_cons_succ]
  refine wpAnyH_take (i := 8) (oi := { dst := some 11, op := Op.load 61 (Operand.tmp 10), type := 61, pos := "ref.go:104", after := #[{ on := 7, ground := Ground.data }], guard := none }) (v := ?_) rfl (by kernel_rfl) (by kernel_rfl) (by kernel_rfl) (fun _ _ _ h => h) (Or.inl ⟨by rfl, ?_⟩) (by assumption) ?_
  rotate_left
  · intro W hSw
    obtain ⟨_, k0, k1, k2, k3⟩ := hSw
    go_simp
    try with_reducible rfl
  simp only [Act.put, List.setIfInBounds_toArray, List.set_cons_zero, List.set_cons_succ]
  refine wpAnyH_take (i := 11) (oi := { dst := some 14, op := Op.move (Operand.tmp 0), type := 85, pos := "ref.go:104", after := #[], guard := none }) (v := ?_) rfl (by kernel_rfl) (by kernel_rfl) (by kernel_rfl) (fun _ _ _ h => h) (Or.inl ⟨by rfl, ?_⟩) (by assumption) ?_
  rotate_left
  · intro W hSw
    obtain ⟨_, k0, k1, k2, k3⟩ := hSw
    go_simp
    try with_reducible rfl
  simp only [Act.put, List.setIfInBounds_toArray, List.set_cons_zero, List.set_cons_succ]
  refine wpAnyH_take (i := 12) (oi := { dst := some 15, op := Op.nilCheck (Operand.tmp 14), type := 0, pos := "ref.go:104", after := #[{ on := 11, ground := Ground.data }], guard := none }) (v := ?_) rfl (by kernel_rfl) (by kernel_rfl) (by kernel_rfl) (fun _ _ _ h => h) (Or.inl ⟨by rfl, ?_⟩) (by assumption) ?_
  rotate_left
  · intro W hSw
    obtain ⟨_, k0, k1, k2, k3⟩ := hSw
    go_simp
    try with_reducible rfl
  simp only [Act.put, List.setIfInBounds_toArray, List.set_cons_zero, List.set_cons_succ]
  refine wpAnyH_take (i := 13) (oi := { dst := some 16, op := Op.fieldAddr 107 (Operand.tmp 15) 2, type := 0, pos := "ref.go:104", after := #[{ on := 12, ground := Ground.data }], guard := none }) (v := ?_) rfl (by kernel_rfl) (by kernel_rfl) (by kernel_rfl) (fun _ _ _ h => h) (Or.inl ⟨by rfl, ?_⟩) (by assumption) ?_
  rotate_left
  · intro W hSw
    obtain ⟨_, k0, k1, k2, k3⟩ := hSw
    go_simp
    try with_reducible rfl
  simp only [Act.put, List.setIfInBounds_toArray, List.set_cons_zero, List.set_cons_succ]
  refine wpAnyH_take (i := 14) (oi := { dst := some 17, op := Op.load 58 (Operand.tmp 16), type := 58, pos := "ref.go:104", after := #[{ on := 13, ground := Ground.data }], guard := none }) (v := ?_) rfl (by kernel_rfl) (by kernel_rfl) (by kernel_rfl) (fun _ _ _ h => h) (Or.inl ⟨by rfl, ?_⟩) (by assumption) ?_
  rotate_left
  · intro W hSw
    obtain ⟨_, k0, k1, k2, k3⟩ := hSw
    go_simp
    try with_reducible rfl
  simp only [Act.put, List.setIfInBounds_toArray, List.set_cons_zero, List.set_cons_succ]
  refine wpAnyH_take (i := 17) (oi := { dst := some 20, op := Op.move (Operand.tmp 0), type := 85, pos := "ref.go:104", after := #[], guard := none }) (v := ?_) rfl (by kernel_rfl) (by kernel_rfl) (by kernel_rfl) (fun _ _ _ h => h) (Or.inl ⟨by rfl, ?_⟩) (by assumption) ?_
  rotate_left
  · intro W hSw
    obtain ⟨_, k0, k1, k2, k3⟩ := hSw
    go_simp
    try with_reducible rfl
  simp only [Act.put, List.setIfInBounds_toArray, List.set_cons_zero, List.set_cons_succ]
  refine wpAnyH_take (i := 18) (oi := { dst := some 21, op := Op.nilCheck (Operand.tmp 20), type := 0, pos := "ref.go:104", after := #[{ on := 17, ground := Ground.data }], guard := none }) (v := ?_) rfl (by kernel_rfl) (by kernel_rfl) (by kernel_rfl) (fun _ _ _ h => h) (Or.inl ⟨by rfl, ?_⟩) (by assumption) ?_
  rotate_left
  · intro W hSw
    obtain ⟨_, k0, k1, k2, k3⟩ := hSw
    go_simp
    try with_reducible rfl
  simp only [Act.put, List.setIfInBounds_toArray, List.set_cons_zero, List.set_cons_succ]
  refine wpAnyH_take (i := 19) (oi := { dst := some 22, op := Op.fieldAddr 107 (Operand.tmp 21) 3, type := 0, pos := "ref.go:104", after := #[{ on := 18, ground := Ground.data }], guard := none }) (v := ?_) rfl (by kernel_rfl) (by kernel_rfl) (by kernel_rfl) (fun _ _ _ h => h) (Or.inl ⟨by rfl, ?_⟩) (by assumption) ?_
  rotate_left
  · intro W hSw
    obtain ⟨_, k0, k1, k2, k3⟩ := hSw
    go_simp
    try with_reducible rfl
  simp only [Act.put, List.setIfInBounds_toArray, List.set_cons_zero, List.set_cons_succ]
  refine wpAnyH_take (i := 20) (oi := { dst := some 23, op := Op.load 36 (Operand.tmp 22), type := 36, pos := "ref.go:104", after := #[{ on := 19, ground := Ground.data }], guard := none }) (v := ?_) rfl (by kernel_rfl) (by kernel_rfl) (by kernel_rfl) (fun _ _ _ h => h) (Or.inl ⟨by rfl, ?_⟩) (by assumption) ?_
  rotate_left
  · intro W hSw
    obtain ⟨_, k0, k1, k2, k3⟩ := hSw
    go_simp
    try with_reducible rfl
  simp only [Act.put, List.setIfInBounds_toArray, List.set_cons_zero, List.set_cons_succ]
  refine wpAnyH_cast (f := 9) (l := lCp 0 0 0) (by kernel_rfl) (by kernel_rfl) ?_
  have HDN : Hid (Dx w B q s Bs Us Bk (.slice AB n cB) (.slice AU n cU) (.slice AK k cK)) := by
    have h := HD.out
    rw [HN.out.1, HN.out.2.1, HN.out.2.2] at h
    exact h
  refine chains3 2 2 2 3 pCp qCp rCp lCp (fun i j kk x W => ∃ v7 v12 v13 v18 v19 v24 : Value, x = ({ tmps := #[.pointer (some ⟨q, 0, none⟩), undef, .pointer none, .pointer (some ⟨q, 0, none⟩), .pointer (some ⟨q, 0, none⟩), .pointer (some ⟨q, 0, none⟩), .int .i64 (s : Int), v7, .pointer (some ⟨q, 0, none⟩), .pointer (some ⟨q, 0, none⟩), .pointer (some ⟨q, 1, none⟩), .slice AB n cB, v12, v13, .pointer (some ⟨q, 0, none⟩), .pointer (some ⟨q, 0, none⟩), .pointer (some ⟨q, 2, none⟩), .slice AU n cU, v18, v19, .pointer (some ⟨q, 0, none⟩), .pointer (some ⟨q, 0, none⟩), .pointer (some ⟨q, 3, none⟩), .slice AK k cK, v24, undef, undef], defers := [] } : Act) ∧ w.heap.size ≤ W.heap.size ∧ Ch sv w.heap.size 9 n Bs i v7 v12 W ∧ Ch bv w.heap.size 4 n Us j v13 v18 W ∧ Ch iv w.heap.size 3 k Bk kk v19 v24 W) (by decide +kernel) (by decide +kernel) (by decide +kernel) (by decide +kernel) ?s1 ?s2 ?s3 ?fin 6 0 0 0 _ _ (by omega) (by omega) (by omega) rfl ⟨undef, undef, undef, undef, undef, undef, rfl, by first | exact Nat.le_refl _ | simp, ⟨rfl, rfl⟩, ⟨rfl, rfl⟩, ⟨rfl, rfl⟩⟩ hHeld
  case s1 =>
    intro i j kk x W hi hI hS
    obtain ⟨v7, v12, v13, v18, v19, v24, rfl, hw, c1, c2, c3⟩ := hI
    have hst : i = 0 ∨ i = 1 := by omega
    rcases hst with rfl | rfl
    · obtain ⟨rfl, rfl⟩ := c1
      show wpOp _ _ _ 4 _ _ _
      refine wpOp_step (o := { dst := some 7, op := Op.buildSlice 61 0 #[], type := 61, pos := "ref.go:104", after := #[], guard := none }) rfl (fun K' hK => ?_)
      have HK := Lib.hid hK
      have HS3 := Lib.hid hS
      clear hK hS
      go_simp
      refine HK.out _ _ ⟨SD.of HDN.out (HS3.out.1.alloc HS3.out.1.size _), ?_⟩
      exact ⟨_, undef, v13, v18, v19, v24, rfl, by simp; omega, ⟨rfl, Ow.fresh W 9 hw rfl⟩, c2.keep (fun _ _ _ h => Ow.later h ((Below.refl _ _).alloc (Nat.le_refl _) _)), c3.keep (fun _ _ _ h => Ow.later h ((Below.refl _ _).alloc (Nat.le_refl _) _))⟩
    · obtain ⟨rfl, ho⟩ := c1
      have hsl : Sl sv W AB n cB Bs := SB0.out.later hS.1
      show wpOp _ _ _ 9 _ _ _
      refine wpOp_step (o := { dst := some 12, op := Op.call { callee := Callee.builtin Builtin.append, args := #[Operand.tmp 7, Operand.tmp 11], argTypes := #[61, 61] }, type := 61, pos := "ref.go:104", after := #[{ on := 4, ground := Ground.data }, { on := 8, ground := Ground.data }], guard := none }) rfl (fun K' hK => ?_)
      refine step_append_sl elemS rfl (.tmp 7) (.tmp 11) rfl w.heap.size v7 0 [] rfl ho AB n cB Bs rfl hsl (by omega) (by omega) hw (fun v W' ho2 hg => hK _ _ ⟨SD.of HDN.out (Below.grown hS.1 hg hS.1.size (fun k hk => (Ow.lt ho k hk).1)), ?_⟩)
      rw [Nat.zero_add, List.nil_append] at ho2
      exact ⟨v7, v, v13, v18, v19, v24, rfl, Nat.le_trans hw hg.size, ho2, c2.keep (fun _ _ _ h => ow_grown_tag h ho (show (4 : TypeId) ≠ 9 by decide) hg), c3.keep (fun _ _ _ h => ow_grown_tag h ho (show (3 : TypeId) ≠ 9 by decide) hg)⟩
  case s2 =>
    intro i j kk x W hi hI hS
    obtain ⟨v7, v12, v13, v18, v19, v24, rfl, hw, c1, c2, c3⟩ := hI
    have hst : j = 0 ∨ j = 1 := by omega
    rcases hst with rfl | rfl
    · obtain ⟨rfl, rfl⟩ := c2
      show wpOp _ _ _ 10 _ _ _
      refine wpOp_step (o := { dst := some 13, op := Op.buildSlice 58 0 #[], type := 58, pos := "ref.go:104", after := #[], guard := none }) rfl (fun K' hK => ?_)
      have HK := Lib.hid hK
      have HS3 := Lib.hid hS
      clear hK hS
      go_simp
      refine HK.out _ _ ⟨SD.of HDN.out (HS3.out.1.alloc HS3.out.1.size _), ?_⟩
      exact ⟨v7, v12, _, undef, v19, v24, rfl, by simp; omega, c1.keep (fun _ _ _ h => Ow.later h ((Below.refl _ _).alloc (Nat.le_refl _) _)), ⟨rfl, Ow.fresh W 4 hw rfl⟩, c3.keep (fun _ _ _ h => Ow.later h ((Below.refl _ _).alloc (Nat.le_refl _) _))⟩
    · obtain ⟨rfl, ho⟩ := c2
      have hsl : Sl bv W AU n cU Us := SU0.out.later hS.1
      show wpOp _ _ _ 15 _ _ _
      refine wpOp_step (o := { dst := some 18, op := Op.call { callee := Callee.builtin Builtin.append, args := #[Operand.tmp 13, Operand.tmp 17], argTypes := #[58, 58] }, type := 58, pos := "ref.go:104", after := #[{ on := 10, ground := Ground.data }, { on := 14, ground := Ground.data }, { on := 9, ground := Ground.chain }], guard := none }) rfl (fun K' hK => ?_)
      refine step_append_sl elemB rfl (.tmp 13) (.tmp 17) rfl w.heap.size v13 0 [] rfl ho AU n cU Us rfl hsl (by omega) (by omega) hw (fun v W' ho2 hg => hK _ _ ⟨SD.of HDN.out (Below.grown hS.1 hg hS.1.size (fun k hk => (Ow.lt ho k hk).1)), ?_⟩)
      rw [Nat.zero_add, List.nil_append] at ho2
      exact ⟨v7, v12, v13, v, v19, v24, rfl, Nat.le_trans hw hg.size, c1.keep (fun _ _ _ h => ow_grown_tag h ho (show (9 : TypeId) ≠ 4 by decide) hg), ho2, c3.keep (fun _ _ _ h => ow_grown_tag h ho (show (3 : TypeId) ≠ 4 by decide) hg)⟩
  case s3 =>
    intro i j kk x W hi hI hS
    obtain ⟨v7, v12, v13, v18, v19, v24, rfl, hw, c1, c2, c3⟩ := hI
    have hst : kk = 0 ∨ kk = 1 := by omega
    rcases hst with rfl | rfl
    · obtain ⟨rfl, rfl⟩ := c3
      show wpOp _ _ _ 16 _ _ _
      refine wpOp_step (o := { dst := some 19, op := Op.buildSlice 36 0 #[], type := 36, pos := "ref.go:104", after := #[], guard := none }) rfl (fun K' hK => ?_)
      have HK := Lib.hid hK
      have HS3 := Lib.hid hS
      clear hK hS
      go_simp
      refine HK.out _ _ ⟨SD.of HDN.out (HS3.out.1.alloc HS3.out.1.size _), ?_⟩
      exact ⟨v7, v12, v13, v18, _, undef, rfl, by simp; omega, c1.keep (fun _ _ _ h => Ow.later h ((Below.refl _ _).alloc (Nat.le_refl _) _)), c2.keep (fun _ _ _ h => Ow.later h ((Below.refl _ _).alloc (Nat.le_refl _) _)), ⟨rfl, Ow.fresh W 3 hw rfl⟩⟩
    · obtain ⟨rfl, ho⟩ := c3
      have hsl : Sl iv W AK k cK Bk := SK0.out.later hS.1
      show wpOp _ _ _ 21 _ _ _
      refine wpOp_step (o := { dst := some 24, op := Op.call { callee := Callee.builtin Builtin.append, args := #[Operand.tmp 19, Operand.tmp 23], argTypes := #[36, 36] }, type := 36, pos := "ref.go:104", after := #[{ on := 16, ground := Ground.data }, { on := 20, ground := Ground.data }, { on := 15, ground := Ground.chain }], guard := none }) rfl (fun K' hK => ?_)
      refine step_append_sl elemI rfl (.tmp 19) (.tmp 23) rfl w.heap.size v19 0 [] rfl ho AK k cK Bk rfl hsl (by omega) (by omega) hw (fun v W' ho2 hg => hK _ _ ⟨SD.of HDN.out (Below.grown hS.1 hg hS.1.size (fun k hk => (Ow.lt ho k hk).1)), ?_⟩)
      rw [Nat.zero_add, List.nil_append] at ho2
      exact ⟨v7, v12, v13, v18, v19, v, rfl, Nat.le_trans hw hg.size, c1.keep (fun _ _ _ h => ow_grown_tag h ho (show (9 : TypeId) ≠ 3 by decide) hg), c2.keep (fun _ _ _ h => ow_grown_tag h ho (show (4 : TypeId) ≠ 3 by decide) hg), ho2⟩
  case fin =>
    intro x W hI hS
    obtain ⟨v7, v12, v13, v18, v19, v24, rfl, hw, c1, c2, c3⟩ := hI
    obtain ⟨A1, k1, rfl, s1⟩ := Ow.sl c1
    obtain ⟨A2, k2, rfl, s2⟩ := Ow.sl c2
    obtain ⟨A3, k3, rfl, s3⟩ := Ow.sl c3
    refine wpAnyH_take (i := 22) (oi := { dst := some 25, op := Op.build 107 #[(0, Operand.tmp 6), (1, Operand.tmp 12), (2, Operand.tmp 18), (3, Operand.tmp 24)], type := 107, pos := "ref.go:104", after := #[{ on := 3, ground := Ground.data }, { on := 9, ground := Ground.data }, { on := 15, ground := Ground.data }, { on := 21, ground := Ground.data }], guard := none }) (v := ?_) rfl (by kernel_rfl) (by kernel_rfl) (by kernel_rfl) (fun _ _ _ h => h) (Or.inl ⟨by rfl, ?_⟩) hS ?_
    rotate_left
    · intro W hSw
      clear hSw
      go_simp
      try with_reducible rfl
    simp only [Act.put, List.setIfInBounds_toArray, List.set_cons_zero, List.set_cons_succ]
    have hS2 := Lib.hid hS
    have HC1 : Hid (Ow sv W w.heap.size 9 (.slice A1 n k1) n Bs) := c1
    have HC2 : Hid (Ow bv W w.heap.size 4 (.slice A2 n k2) n Us) := c2
    have HC3 : Hid (Ow iv W w.heap.size 3 (.slice A3 k k3) k Bk) := c3
    refine wpAnyH_ready (rs := [23]) (by kernel_rfl) (by simp) (AllReadyH.cons (o := { dst := some 26, op := Op.box 107 (Operand.tmp 25), type := 85, pos := "ref.go:104", after := #[{ on := 22, ground := Ground.data }], guard := none }) rfl (fun K hK => ?_) AllReadyH.nil)
    clear s1 s2 s3 c1 c2 c3 hHeld
    go_simp
    have HB2 : Hid (Below w.heap.size w (W.alloc (.cells #[.int .i64 (s : Int), .slice A1 n k1, .slice A2 n k2, .slice A3 k k3] 107))) := hS2.out.1.alloc hS2.out.1.size _
    have hbx : Below W.heap.size W (W.alloc (.cells #[.int .i64 (s : Int), .slice A1 n k1, .slice A2 n k2, .slice A3 k k3] 107)) := (Below.refl _ _).alloc (Nat.le_refl _) _
    have HEND : Hid (CpD s (m, C, bs, F) w (.returned (.pointer (some ⟨W.heap.size, 0, none⟩))) (W.alloc (.cells #[.int .i64 (s : Int), .slice A1 n k1, .slice A2 n k2, .slice A3 k k3] 107))) := by
      refine ⟨W.heap.size, Bs, Us, Bk, .slice A1 n k1, .slice A2 n k2, .slice A3 k k3, rfl, ⟨hw, Blk.new _ _ _, ?_, ?_, ?_⟩, HRL.out, HB2.out⟩
      · rw [HN.out.1]; exact Ow.later HC1.out hbx
      · rw [HN.out.2.1]; exact Ow.later HC2.out hbx
      · exact Ks.of (by rw [HN.out.2.2]; exact Ow.later HC3.out hbx)
    clear hbx
    refine hK.out _ _ (SD.of HDN.out HB2.out) (fun hHeld2 => ?_)
    generalize W.alloc (.cells #[.int .i64 (s : Int), .slice A1 n k1, .slice A2 n k2, .slice A3 k k3] 107) = W9 at *
    refine wpAnyH_take (i := 24) (oi := { dst := some 2, op := Op.assign (Operand.tmp 26), type := 85, pos := "ref.go:104", after := #[{ on := 23, ground := Ground.data }, { on := 21, ground := Ground.chain }, { on := 0, ground := Ground.phase }, { on := 1, ground := Ground.phase }, { on := 2, ground := Ground.phase }, { on := 3, ground := Ground.phase }, { on := 4, ground := Ground.phase }, { on := 5, ground := Ground.phase }, { on := 6, ground := Ground.phase }, { on := 7, ground := Ground.phase }, { on := 8, ground := Ground.phase }, { on := 9, ground := Ground.phase }, { on := 10, ground := Ground.phase }, { on := 11, ground := Ground.phase }, { on := 12, ground := Ground.phase }, { on := 13, ground := Ground.phase }, { on := 14, ground := Ground.phase }, { on := 15, ground := Ground.phase }, { on := 16, ground := Ground.phase }, { on := 17, ground := Ground.phase }, { on := 18, ground := Ground.phase }, { on := 19, ground := Ground.phase }, { on := 20, ground := Ground.phase }, { on := 21, ground := Ground.phase }, { on := 22, ground := Ground.phase }, { on := 23, ground := Ground.phase }], guard := none }) (v := ?_) rfl (by kernel_rfl) (by kernel_rfl) (by kernel_rfl) (fun _ _ _ h => h) (Or.inl ⟨by rfl, ?_⟩) hHeld2 ?_
    rotate_left
    · intro W hSw
      clear hSw
      go_simp
      try with_reducible rfl
    simp only [Act.put, List.setIfInBounds_toArray, List.set_cons_zero, List.set_cons_succ]
    refine wpAnyH_done (by kernel_rfl) (NoPanic.normal ?_) _
    clear hHeld2 hK K
    go_wp2
    go_ret
    exact HEND.out
end Go.Proofs.Ytbnbhhmgfogjeaa
