/- Tell. -/
import Derived.Test.YtkgdmdcnhbaidaaDoorRW
import Derived.Test.YtkgdmdcnhbaidaaDoorL
namespace Go.Proofs.YtkgdmdcnhbaidaaDoor
open Go.ChangeShapes Go.WideShapes Go.ChangeAt Go.RowKit
set_option linter.unusedVariables false
set_option linter.unusedSimpArgs false

abbrev Pr := ByteArray × ByteArray
def pvc (p : Pr) : List Value := [.string p.1, .string p.2]
def pw : List Pr → List ByteArray
  | [] => []
  | p :: l => hexP p.1 :: hexP p.2 :: pw l
theorem pw_app : ∀ (l m : List Pr), pw (l ++ m) = pw l ++ pw m
  | [], _ => rfl
  | p :: l, m => by show hexP p.1 :: hexP p.2 :: pw (l ++ m) = _; rw [pw_app l m]; rfl
theorem pw_len : ∀ l : List Pr, (pw l).length = 2 * l.length
  | [] => rfl
  | p :: l => by show (pw l).length + 1 + 1 = _; rw [pw_len l, List.length_cons]; omega
def fwd (b : Bool) : ByteArray := if b then { data := #[49] } else { data := #[48] }
def tellL (er : Int) (fo : Bool) (va : ByteArray) (ps : List Pr) : List ByteArray := [ofL (Lib.itoa er), fwd fo, hexP va] ++ pw ps
theorem idx35 (g off m c k : Nat) (i : Int) (hi : i = (k : Int)) (h : k < m) (W : World) : (Instr.indexAt 35 (.slice (some ⟨g, off, none⟩) m c) (.int .i64 i)).run Tryd.prog W = .ok (.pointer (some ⟨g, off + k * 2, none⟩)) W := by
  subst hi
  have h1 : (0 : Int) ≤ (k : Int) ∧ (k : Int) < (m : Int) := by omega
  go_simp
set_option maxRecDepth 100000 in
set_option maxHeartbeats 16000000 in
theorem tell_any (er : Int) (fo : Bool) (va : ByteArray) (A : Option Addr) (n c : Nat) (ps : List Pr) (w : World) (her : -9223372036854775808 ≤ er ∧ er ≤ 9223372036854775807) (hva : va.size ≤ 100000) (hps : ∀ p ∈ ps, p.1.size ≤ 100000 ∧ p.2.size ≤ 100000) (hsl : RSl pvc 2 w A n ps) (hn : n ≤ 100000) (hg : Gl w) (hjl : (joinW (tellL er fo va ps)).size ≤ 140737488355328) : Calls Tryd.prog 22 #[.agg #[.int .i64 er, .bool fo, .string va, .slice A n c]] w fun e w' => e = .returned (.string (joinW (tellL er fo va ps))) ∧ Below w.heap.size w w' := by
  obtain ⟨J, hJ⟩ : ∃ J, joinW (tellL er fo va ps) = J := ⟨_, rfl⟩
  rw [hJ] at hjl ⊢
  have HJ := Lib.hid hJ
  have HJL := Lib.hid hjl
  have HB1 : Hid (Below w.heap.size w (w.alloc (.cells #[.int .i64 er, .bool fo, .string va, .slice A n c] 37))) := (Below.refl _ _).alloc (Nat.le_refl _) _
  have HX : Hid (Blk (w.alloc (.cells #[.int .i64 er, .bool fo, .string va, .slice A n c] 37)) w.heap.size #[.int .i64 er, .bool fo, .string va, .slice A n c] 37) := Blk.new _ _ _
  have HSL := Lib.hid hsl
  have HPS := Lib.hid hps
  have HG := Lib.hid (hg.later HB1.out)
  have HLN : Hid (ps.length = n) := Lib.hid hsl.1
  obtain ⟨s1, hs1⟩ : ∃ s, ofL (Lib.itoa er) = s := ⟨_, rfl⟩
  obtain ⟨s2, hs2⟩ : ∃ s, hexP va = s := ⟨_, rfl⟩
  obtain ⟨fw, hfw⟩ : ∃ s, fwd fo = s := ⟨_, rfl⟩
  have HFW := Lib.hid hfw
  have HTL : Hid (tellL er fo va ps = [s1, fw, s2] ++ pw ps) := Lib.hid (by unfold tellL; rw [hs1, hs2, hfw])
  clear hJ hjl hsl hps hg hfw
  go_enter Tryd.func22, Tryd.ntmps22
  go_upto_region 1 with (fail)
  generalize w.alloc (.cells #[.int .i64 er, .bool fo, .string va, .slice A n c] 37) = w1 at *
  obtain ⟨px, hpx⟩ : ∃ x, w.heap.size = x := ⟨_, rfl⟩
  have HPX := Lib.hid hpx
  rw [hpx] at HX ⊢
  clear hpx
  have HW1 : Hid (∀ W, Below w1.heap.size w1 W → Calls Tryd.prog 38 #[.int .i64 er] W fun e w' => e = .returned (.string s1) ∧ Below W.heap.size W w') := Lib.hid (fun W h => hs1 ▸ itoa_any er W her (HG.out.later h))
  have HW2 : Hid (∀ W, Below w1.heap.size w1 W → Calls Tryd.prog 39 #[.string va] W fun e w' => e = .returned (.string s2) ∧ Below W.heap.size W w') := Lib.hid (fun W h => hs2 ▸ hex_any va W hva)
  clear hs1 hs2 her hva
  have c1 := HX.out.cell 1
  simp only [List.getElem?_toArray, List.getElem?_cons_zero, List.getElem?_cons_succ] at c1
  go_upto_if 8 with (fail)
  go_cut [3] (fun s3 wx => s3 = .string fw ∧ wx = w1)
  case first =>
    have hfw := HFW.out
    cases fo with
    | true =>
      have hfw2 : ({ data := #[49] } : ByteArray) = fw := hfw
      clear hfw
      subst hfw2
      go_wp2
      go_meet
      exact ⟨rfl, rfl⟩
    | false =>
      have hfw2 : ({ data := #[48] } : ByteArray) = fw := hfw
      clear hfw
      subst hfw2
      go_wp2
      go_meet
      exact ⟨rfl, rfl⟩
  case rest =>
    obtain ⟨rfl, hwc⟩ := hcut
    subst hwc
    clear c1
    obtain ⟨W0, rfl⟩ : ∃ W0 : World, W0 = wc := ⟨_, rfl⟩
    go_upto_region 4 with (fail)
    refine wp_region_noPanic ?_
    refine wp_region_held_drew (S := fun W => Below W0.heap.size W0 W) (by kernel_rfl) (Below.drew (Below.refl _ _)) (fun hHeld => ?_)
    refine wpAnyH_take (i := 0) (oi := { dst := some 9, op := Op.fieldAddr 37 (Operand.tmp 1) 0, type := 0, pos := "call.go:271", after := #[], guard := none }) (v := ?_) rfl (by kernel_rfl) (by kernel_rfl) (by kernel_rfl) (fun _ _ _ h => h) (Or.inl ⟨by rfl, ?_⟩) (by assumption) ?_
    rotate_left
    · intro W hSw
      have x0 := (HX.out.later hSw).cell 0
      have x2 := (HX.out.later hSw).cell 2
      simp only [List.getElem?_toArray, List.getElem?_cons_zero, List.getElem?_cons_succ] at x0 x2
      go_simp
      try with_reducible rfl
    simp only [Act.put, List.setIfInBounds_toArray, List.set_cons_zero, List.set_cons_succ]
    refine wpAnyH_take (i := 1) (oi := { dst := some 10, op := Op.load 26 (Operand.tmp 9), type := 26, pos := "call.go:271", after := #[{ on := 0, ground := Ground.data }], guard := none }) (v := ?_) rfl (by kernel_rfl) (by kernel_rfl) (by kernel_rfl) (fun _ _ _ h => h) (Or.inl ⟨by rfl, ?_⟩) (by assumption) ?_
    rotate_left
    · intro W hSw
      have x0 := (HX.out.later hSw).cell 0
      have x2 := (HX.out.later hSw).cell 2
      simp only [List.getElem?_toArray, List.getElem?_cons_zero, List.getElem?_cons_succ] at x0 x2
      go_simp
      try with_reducible rfl
    simp only [Act.put, List.setIfInBounds_toArray, List.set_cons_zero, List.set_cons_succ]
    refine wpAnyH_take (i := 3) (oi := { dst := some 12, op := Op.move (Operand.tmp 3), type := 9, pos := "call.go:271", after := #[], guard := none }) (v := ?_) rfl (by kernel_rfl) (by kernel_rfl) (by kernel_rfl) (fun _ _ _ h => h) (Or.inl ⟨by rfl, ?_⟩) (by assumption) ?_
    rotate_left
    · intro W hSw
      have x0 := (HX.out.later hSw).cell 0
      have x2 := (HX.out.later hSw).cell 2
      simp only [List.getElem?_toArray, List.getElem?_cons_zero, List.getElem?_cons_succ] at x0 x2
      go_simp
      try with_reducible rfl
    simp only [Act.put, List.setIfInBounds_toArray, List.set_cons_zero, List.set_cons_succ]
    refine wpAnyH_take (i := 4) (oi := { dst := some 13, op := Op.fieldAddr 37 (Operand.tmp 1) 2, type := 0, pos := "call.go:271", after := #[], guard := none }) (v := ?_) rfl (by kernel_rfl) (by kernel_rfl) (by kernel_rfl) (fun _ _ _ h => h) (Or.inl ⟨by rfl, ?_⟩) (by assumption) ?_
    rotate_left
    · intro W hSw
      have x0 := (HX.out.later hSw).cell 0
      have x2 := (HX.out.later hSw).cell 2
      simp only [List.getElem?_toArray, List.getElem?_cons_zero, List.getElem?_cons_succ] at x0 x2
      go_simp
      try with_reducible rfl
    simp only [Act.put, List.setIfInBounds_toArray, List.set_cons_zero, List.set_cons_succ]
    refine wpAnyH_take (i := 5) (oi := { dst := some 14, op := Op.load 9 (Operand.tmp 13), type := 9, pos := "call.go:271", after := #[{ on := 4, ground := Ground.data }], guard := none }) (v := ?_) rfl (by kernel_rfl) (by kernel_rfl) (by kernel_rfl) (fun _ _ _ h => h) (Or.inl ⟨by rfl, ?_⟩) (by assumption) ?_
    rotate_left
    · intro W hSw
      have x0 := (HX.out.later hSw).cell 0
      have x2 := (HX.out.later hSw).cell 2
      simp only [List.getElem?_toArray, List.getElem?_cons_zero, List.getElem?_cons_succ] at x0 x2
      go_simp
      try with_reducible rfl
    simp only [Act.put, List.setIfInBounds_toArray, List.set_cons_zero, List.set_cons_succ]
    refine wpAnyH_ready (rs := [2]) (by kernel_rfl) (by simp) (AllReadyH.cons (o := { dst := some 11, op := Op.call { callee := Callee.value (Operand.func 38), args := #[Operand.tmp 10], argTypes := #[3] }, type := 9, pos := "call.go:271", after := #[{ on := 1, ground := Ground.data }], guard := none }) rfl (fun K hK => ?_) AllReadyH.nil)
    have HCL := Lib.hid (HW1.out _ hHeld)
    go_simp
    refine HCL.out.mono ?_
    rintro e Wa ⟨rfl, hb⟩
    have HBa := Lib.hid (stepB hHeld hb)
    clear hb HCL
    refine hK.out _ _ HBa.out (fun hH2 => ?_)
    clear hK K hHeld
    refine wpAnyH_ready (rs := [6]) (by kernel_rfl) (by simp) (AllReadyH.cons (o := { dst := some 15, op := Op.call { callee := Callee.value (Operand.func 39), args := #[Operand.tmp 14], argTypes := #[9] }, type := 9, pos := "call.go:271", after := #[{ on := 5, ground := Ground.data }, { on := 2, ground := Ground.chain }], guard := none }) rfl (fun K hK => ?_) AllReadyH.nil)
    have HCL := Lib.hid (HW2.out _ HBa.out)
    go_simp
    refine HCL.out.mono ?_
    rintro e Wb ⟨rfl, hb⟩
    have HBb := Lib.hid (stepB HBa.out hb)
    clear hb HCL HBa hH2
    refine hK.out _ _ HBb.out (fun hHeld => ?_)
    clear hK K
    refine wpAnyH_ready (rs := [7]) (by kernel_rfl) (by simp) (AllReadyH.cons (o := { dst := some 16, op := Op.buildSlice 25 3 #[(0, Operand.tmp 11), (1, Operand.tmp 12), (2, Operand.tmp 15)], type := 25, pos := "call.go:271", after := #[{ on := 2, ground := Ground.data }, { on := 3, ground := Ground.data }, { on := 6, ground := Ground.data }], guard := none }) rfl (fun K hK => ?_) AllReadyH.nil)
    go_simp
    have hby : Below Wb.heap.size Wb (Wb.alloc (.cells #[.string s1, .string fw, .string s2] 9)) := (Below.refl _ _).alloc (Nat.le_refl _) _
    have HBc := Lib.hid (stepB HBb.out hby)
    have HOW : Hid (Ow sv (Wb.alloc (.cells #[.string s1, .string fw, .string s2] 9)) W0.heap.size 9 (.slice (some ⟨Wb.heap.size, 0, none⟩) 3 3) 3 [s1, fw, s2]) := World.ownsRow_lit (base := W0.heap.size) (e := 9) (size := 1) Wb #[.string s1, .string fw, .string s2] 3 HBb.out.size (by decide) rfl
    clear hby HBb hHeld
    refine hK.out _ _ HBc.out (fun hHeld => ?_)
    clear hK K
    generalize Wb.alloc (.cells #[.string s1, .string fw, .string s2] 9) = Wc at *
    obtain ⟨gq, hgq⟩ : ∃ x, Wb.heap.size = x := ⟨_, rfl⟩
    rw [hgq] at HOW ⊢
    clear hgq
    refine wpAnyH_take (i := 8) (oi := { dst := some 4, op := Op.assign (Operand.tmp 16), type := 25, pos := "call.go:271", after := #[{ on := 7, ground := Ground.data }, { on := 6, ground := Ground.chain }, { on := 0, ground := Ground.phase }, { on := 1, ground := Ground.phase }, { on := 2, ground := Ground.phase }, { on := 3, ground := Ground.phase }, { on := 4, ground := Ground.phase }, { on := 5, ground := Ground.phase }, { on := 6, ground := Ground.phase }, { on := 7, ground := Ground.phase }], guard := none }) (v := ?_) rfl (by kernel_rfl) (by kernel_rfl) (by kernel_rfl) (fun _ _ _ h => h) (Or.inl ⟨by rfl, ?_⟩) (by assumption) ?_
    rotate_left
    · intro W hSw
      clear hSw
      go_simp
      try with_reducible rfl
    simp only [Act.put, List.setIfInBounds_toArray, List.set_cons_zero, List.set_cons_succ]
    refine wpAnyH_done (by kernel_rfl) (NoPanic.normal ?_) _
    clear hHeld HW1 HW2
    have c3 := (HX.out.later HBc.out).cell 3
    simp only [List.getElem?_toArray, List.getElem?_cons_zero, List.getElem?_cons_succ] at c3
    go_wp2
    go_loopw [4, 20] (fun al ix W => ∃ (k : Nat) (v : Value), k ≤ n ∧ ix = .int .i64 k ∧ al = v ∧ Ow sv W W0.heap.size 9 v (3 + 2 * k) ([s1, fw, s2] ++ pw (ps.take k)) ∧ Below W0.heap.size W0 W) (fun _ ix _ => n - (intOf ix).toNat)
    case atStart => exact ⟨0, _, Nat.zero_le _, rfl, rfl, HOW.out, HBc.out⟩
    case round =>
      obtain ⟨k, v, hk, rfl, rfl, ho, hb⟩ := hrel
      have HO := Lib.hid ho
      have HBr := Lib.hid hb
      clear ho hb
      by_cases hlt : k < n
      · have d1 : decide ((k : Int) < (n : Int)) = true := decide_eq_true (by omega)
        have wk : IntKind.i64.wrap ((k : Int) + 1) = (k : Int) + 1 := IntWalk.i64_in _ (by omega)
        obtain ⟨g, off, hA, hg, hcs⟩ := HSL.out.2 (by omega)
        subst hA
        have i1 := idx35 g off n c k (k : Int) rfl hlt
        have hx : ps[k]? = some (ps.getD k (emp, emp)) := by rw [List.getD_eq_getElem?_getD, List.getElem?_eq_getElem (by rw [HLN.out]; exact hlt)]; rfl
        have hy0 := hcs k _ hx 0 (by omega)
        have hy1 := hcs k _ hx 1 (by omega)
        have hpk := HPS.out _ (List.mem_of_getElem? hx)
        have HPW : Hid (pw (ps.take (k + 1)) = pw (ps.take k) ++ [hexP (ps.getD k (emp, emp)).1, hexP (ps.getD k (emp, emp)).2]) := Lib.hid (by rw [List.take_add_one, hx, pw_app]; rfl)
        obtain ⟨⟨ka, kv⟩, hkk⟩ : ∃ p, ps.getD k (emp, emp) = p := ⟨_, rfl⟩
        rw [hkk] at hy0 hy1 hpk HPW
        have hbw := stepB HB1.out HBr.out
        have x0 : wr.cell? ⟨g, off + k * 2, none⟩ = some (.string ka) := (hbw.cell (p := ⟨g, off + k * 2, none⟩) hg).trans hy0
        have x1 : wr.cell? ⟨g, off + k * 2 + 1, none⟩ = some (.string kv) := (hbw.cell (p := ⟨g, off + k * 2 + 1, none⟩) hg).trans hy1
        obtain ⟨t1, ht1⟩ : ∃ s, hexP ka = s := ⟨_, rfl⟩
        obtain ⟨t2, ht2⟩ : ∃ s, hexP kv = s := ⟨_, rfl⟩
        have HU1 : Hid (∀ W, Calls Tryd.prog 39 #[.string ka] W fun e w' => e = .returned (.string t1) ∧ Below W.heap.size W w') := Lib.hid (fun W => ht1 ▸ hex_any ka W hpk.1)
        have HU2 : Hid (∀ W, Calls Tryd.prog 39 #[.string kv] W fun e w' => e = .returned (.string t2) ∧ Below W.heap.size W w') := Lib.hid (fun W => ht2 ▸ hex_any kv W hpk.2)
        simp only at HPW
        rw [ht1, ht2] at HPW
        have hby : Below wr.heap.size wr (wr.alloc (.cells #[.string ka, .string kv] 42)) := (Below.refl _ _).alloc (Nat.le_refl _) _
        have HP : Hid (Blk (wr.alloc (.cells #[.string ka, .string kv] 42)) wr.heap.size #[.string ka, .string kv] 42) := Blk.new _ _ _
        have HO1 := Lib.hid (HO.out.later hby)
        have HBs := Lib.hid (stepB HBr.out hby)
        clear hx hy0 hy1 hpk hkk hbw ht1 ht2 hby hcs hg
        go_upto_region 8 with (fail)
        clear x0 x1
        generalize wr.alloc (.cells #[.string ka, .string kv] 42) = w2 at *
        obtain ⟨pp, hpp⟩ : ∃ x, wr.heap.size = x := ⟨_, rfl⟩
        rw [hpp] at HP ⊢
        clear hpp HO HBr
        have hbd : Below w2.heap.size w2 w2.drew := Below.drew (Below.refl _ _)
        have HO2 := Lib.hid (HO1.out.later hbd)
        have HB2 := Lib.hid (stepB HBs.out hbd)
        have HP2 := Lib.hid (HP.out.later hbd)
        clear hbd HO1 HBs
        refine wp_region_noPanic ?_
        refine wp_region_held_drew (S := fun W => Blk W pp #[.string ka, .string kv] 42) (by kernel_rfl) HP2.out (fun hHeld => ?_)
        refine wpAnyH_take (i := 0) (oi := { dst := some 24, op := Op.move (Operand.tmp 4), type := 25, pos := "call.go:273", after := #[], guard := none }) (v := ?_) rfl (by kernel_rfl) (by kernel_rfl) (by kernel_rfl) (fun _ _ _ h => h) (Or.inl ⟨by rfl, ?_⟩) (by assumption) ?_
        rotate_left
        · intro W hSw
          have x0 := Blk.cell hSw 0
          have x1 := Blk.cell hSw 1
          simp only [List.getElem?_toArray, List.getElem?_cons_zero, List.getElem?_cons_succ] at x0 x1
          go_simp
          try with_reducible rfl
        simp only [Act.put, List.setIfInBounds_toArray, List.set_cons_zero, List.set_cons_succ]
        refine wpAnyH_take (i := 1) (oi := { dst := some 25, op := Op.fieldAddr 42 (Operand.tmp 6) 0, type := 0, pos := "call.go:273", after := #[], guard := none }) (v := ?_) rfl (by kernel_rfl) (by kernel_rfl) (by kernel_rfl) (fun _ _ _ h => h) (Or.inl ⟨by rfl, ?_⟩) (by assumption) ?_
        rotate_left
        · intro W hSw
          have x0 := Blk.cell hSw 0
          have x1 := Blk.cell hSw 1
          simp only [List.getElem?_toArray, List.getElem?_cons_zero, List.getElem?_cons_succ] at x0 x1
          go_simp
          try with_reducible rfl
        simp only [Act.put, List.setIfInBounds_toArray, List.set_cons_zero, List.set_cons_succ]
        refine wpAnyH_take (i := 2) (oi := { dst := some 26, op := Op.load 9 (Operand.tmp 25), type := 9, pos := "call.go:273", after := #[{ on := 1, ground := Ground.data }], guard := none }) (v := ?_) rfl (by kernel_rfl) (by kernel_rfl) (by kernel_rfl) (fun _ _ _ h => h) (Or.inl ⟨by rfl, ?_⟩) (by assumption) ?_
        rotate_left
        · intro W hSw
          have x0 := Blk.cell hSw 0
          have x1 := Blk.cell hSw 1
          simp only [List.getElem?_toArray, List.getElem?_cons_zero, List.getElem?_cons_succ] at x0 x1
          go_simp
          try with_reducible rfl
        simp only [Act.put, List.setIfInBounds_toArray, List.set_cons_zero, List.set_cons_succ]
        refine wpAnyH_take (i := 4) (oi := { dst := some 28, op := Op.fieldAddr 42 (Operand.tmp 6) 1, type := 0, pos := "call.go:273", after := #[], guard := none }) (v := ?_) rfl (by kernel_rfl) (by kernel_rfl) (by kernel_rfl) (fun _ _ _ h => h) (Or.inl ⟨by rfl, ?_⟩) (by assumption) ?_
        rotate_left
        · intro W hSw
          have x0 := Blk.cell hSw 0
          have x1 := Blk.cell hSw 1
          simp only [List.getElem?_toArray, List.getElem?_cons_zero, List.getElem?_cons_succ] at x0 x1
          go_simp
          try with_reducible rfl
        simp only [Act.put, List.setIfInBounds_toArray, List.set_cons_zero, List.set_cons_succ]
        refine wpAnyH_take (i := 5) (oi := { dst := some 29, op := Op.load 9 (Operand.tmp 28), type := 9, pos := "call.go:273", after := #[{ on := 4, ground := Ground.data }], guard := none }) (v := ?_) rfl (by kernel_rfl) (by kernel_rfl) (by kernel_rfl) (fun _ _ _ h => h) (Or.inl ⟨by rfl, ?_⟩) (by assumption) ?_
        rotate_left
        · intro W hSw
          have x0 := Blk.cell hSw 0
          have x1 := Blk.cell hSw 1
          simp only [List.getElem?_toArray, List.getElem?_cons_zero, List.getElem?_cons_succ] at x0 x1
          go_simp
          try with_reducible rfl
        simp only [Act.put, List.setIfInBounds_toArray, List.set_cons_zero, List.set_cons_succ]
        refine wpAnyH_ready (rs := [3]) (by kernel_rfl) (by simp) (AllReadyH.cons (o := { dst := some 27, op := Op.call { callee := Callee.value (Operand.func 39), args := #[Operand.tmp 26], argTypes := #[9] }, type := 9, pos := "call.go:273", after := #[{ on := 2, ground := Ground.data }], guard := none }) rfl (fun K hK => ?_) AllReadyH.nil)
        have HCL := Lib.hid (HU1.out w2.drew)
        go_simp
        refine HCL.out.mono ?_
        rintro e Wd ⟨rfl, hb⟩
        have HO3 := Lib.hid (HO2.out.later hb)
        have HB3 := Lib.hid (stepB HB2.out hb)
        have HS3 := Lib.hid (HP2.out.later hb)
        clear hb HCL HO2 HB2 HP2
        refine hK.out _ _ HS3.out (fun hH2 => ?_)
        clear hK K hHeld
        refine wpAnyH_ready (rs := [6]) (by kernel_rfl) (by simp) (AllReadyH.cons (o := { dst := some 30, op := Op.call { callee := Callee.value (Operand.func 39), args := #[Operand.tmp 29], argTypes := #[9] }, type := 9, pos := "call.go:273", after := #[{ on := 5, ground := Ground.data }, { on := 3, ground := Ground.chain }], guard := none }) rfl (fun K hK => ?_) AllReadyH.nil)
        have HCL := Lib.hid (HU2.out Wd)
        go_simp
        refine HCL.out.mono ?_
        rintro e We ⟨rfl, hb⟩
        have HO4 := Lib.hid (HO3.out.later hb)
        have HB4 := Lib.hid (stepB HB3.out hb)
        have HS4 := Lib.hid (HS3.out.later hb)
        clear hb HCL HO3 HB3 HS3 hH2
        refine hK.out _ _ HS4.out (fun hHeld => ?_)
        clear hK K
        refine wpAnyH_ready (rs := [7]) (by kernel_rfl) (by simp) (AllReadyH.cons (o := { dst := some 31, op := Op.buildSlice 25 2 #[(0, Operand.tmp 27), (1, Operand.tmp 30)], type := 25, pos := "call.go:273", after := #[{ on := 3, ground := Ground.data }, { on := 6, ground := Ground.data }], guard := none }) rfl (fun K hK => ?_) AllReadyH.nil)
        go_simp
        have hby : Below We.heap.size We (We.alloc (.cells #[.string t1, .string t2] 9)) := (Below.refl _ _).alloc (Nat.le_refl _) _
        have HX3 : Hid (Sl sv (We.alloc (.cells #[.string t1, .string t2] 9)) (some ⟨We.heap.size, 0, none⟩) 2 2 [t1, t2]) := Blk.sl (enc := sv) (xs := [t1, t2]) (Blk.new We #[.string t1, .string t2] 9)
        have HO5 := Lib.hid (HO4.out.later hby)
        have HB5 := Lib.hid (stepB HB4.out hby)
        have HS5 := Lib.hid (HS4.out.later hby)
        clear hby HO4 HB4 HS4 hHeld
        refine hK.out _ _ HS5.out (fun hHeld => ?_)
        clear hK K
        generalize We.alloc (.cells #[.string t1, .string t2] 9) = Wf at *
        obtain ⟨xq, hxq⟩ : ∃ x, We.heap.size = x := ⟨_, rfl⟩
        rw [hxq] at HX3 ⊢
        clear hxq
        refine wpAnyH_ready (rs := [8]) (by kernel_rfl) (by simp) (AllReadyH.cons (o := { dst := some 32, op := Op.call { callee := Callee.builtin Builtin.append, args := #[Operand.tmp 24, Operand.tmp 31], argTypes := #[25, 25] }, type := 25, pos := "call.go:273", after := #[{ on := 0, ground := Ground.data }, { on := 7, ground := Ground.data }, { on := 6, ground := Ground.chain }], guard := none }) rfl (fun K hK => ?_) AllReadyH.nil)
        refine step_append_sl elemS rfl (.tmp 24) (.tmp 31) rfl W0.heap.size _ (3 + 2 * k) ([s1, fw, s2] ++ pw (ps.take k)) rfl HO5.out (some ⟨xq, 0, none⟩) 2 2 [t1, t2] rfl HX3.out (by omega) (by decide) HB5.out.size (fun v8 w8 ho8 hg8 => ?_)
        have HO8 : Hid (Ow sv w8 W0.heap.size 9 v8 (3 + 2 * (k + 1)) ([s1, fw, s2] ++ pw (ps.take (k + 1)))) := Lib.hid (by rw [HPW.out, ← List.append_assoc]; exact ho8)
        have HB8 : Hid (Below W0.heap.size W0 w8) := HB5.out.grown hg8 HB5.out.size (fun j e => (Ow.lt HO5.out j e).1)
        have HS8 : Hid (Blk w8 pp #[.string ka, .string kv] 42) := HS5.out.grown hg8 (fun e => by obtain ⟨cu, hc⟩ := Ow.tag HO5.out pp e.symm; have h5 := HS5.out; unfold Blk at h5; rw [hc] at h5; cases h5)
        clear ho8 hg8 HO5 HB5 HX3
        refine hK.out _ _ HS8.out (fun hHeld => ?_)
        clear hK K
        try simp only [Act.put, List.setIfInBounds_toArray, List.set_cons_zero, List.set_cons_succ]
        refine wpAnyH_take (i := 9) (oi := { dst := some 4, op := Op.assign (Operand.tmp 32), type := 25, pos := "call.go:273", after := #[{ on := 8, ground := Ground.data }, { on := 8, ground := Ground.chain }, { on := 0, ground := Ground.phase }, { on := 1, ground := Ground.phase }, { on := 2, ground := Ground.phase }, { on := 3, ground := Ground.phase }, { on := 4, ground := Ground.phase }, { on := 5, ground := Ground.phase }, { on := 6, ground := Ground.phase }, { on := 7, ground := Ground.phase }, { on := 8, ground := Ground.phase }], guard := none }) (v := ?_) rfl (by kernel_rfl) (by kernel_rfl) (by kernel_rfl) (fun _ _ _ h => h) (Or.inl ⟨by rfl, ?_⟩) (by assumption) ?_
        rotate_left
        · intro W hSw
          clear hSw
          go_simp
          try with_reducible rfl
        simp only [Act.put, List.setIfInBounds_toArray, List.set_cons_zero, List.set_cons_succ]
        refine wpAnyH_done (by kernel_rfl) (NoPanic.normal ?_) _
        clear hHeld HS5 HS8
        go_wp2
        go_roundw
        case rel => exact ⟨k + 1, _, by omega, by go_num, rfl, HO8.out, HB8.out⟩
        case measure => simp [intOf]; omega
      · obtain rfl : k = n := by omega
        have d1 : decide ((k : Int) < (k : Int)) = false := decide_eq_false (by omega)
        have ho := HO.out
        have hbe := HBr.out
        have e1 : ps.take k = ps := by rw [← HLN.out, List.take_length]
        rw [e1] at ho
        obtain ⟨A6, k6, rfl, hsl⟩ := Ow.sl ho
        obtain ⟨g, off, rfl, hg6, hcs⟩ := hsl.rd.2 (by omega)
        have HJ6 : Hid (joinW ([s1, fw, s2] ++ pw ps) = J) := Lib.hid (by rw [← HJ.out, HTL.out])
        have hlen : ([s1, fw, s2] ++ pw ps).length = 3 + 2 * k := by rw [List.length_append, pw_len, HLN.out]; rfl
        have hjn := join_any g off k6 ([s1, fw, s2] ++ pw ps) wr hcs hg6 (by rw [hlen]; omega) (by rw [hlen]; exact hsl.le) (by rw [HJ6.out]; exact HJL.out)
        rw [HJ6.out, hlen] at hjn
        have HJN := Lib.hid hjn
        have HBE := Lib.hid (stepB HB1.out hbe)
        clear hjn hsl hcs hg6 ho hbe e1 hlen HO HBr
        go_wp2_with fail
        refine HJN.out.mono ?_
        rintro e W7 ⟨rfl, hb⟩
        have HBF := Lib.hid (stepB HBE.out hb)
        clear hb HJN
        go_wp2
        go_ret
        exact ⟨rfl, HBF.out⟩
end Go.Proofs.YtkgdmdcnhbaidaaDoor
