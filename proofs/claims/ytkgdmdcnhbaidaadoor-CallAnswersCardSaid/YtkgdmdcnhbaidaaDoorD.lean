/- hex. -/
import Derived.Test.YtkgdmdcnhbaidaaDoorC
import Derived.Lib.ConvBytes
namespace Go.Proofs.YtkgdmdcnhbaidaaDoor
open Go.ChangeShapes Go.WideShapes Go.ChangeAt Go.RowKit
set_option linter.unusedVariables false
set_option linter.unusedSimpArgs false

def bv (c : UInt8) : Value := .int .u8 (c.toNat : Nat)
theorem elemB : Elem Tryd.prog 34 5 bv 1 where
  und := Tryd.underlying34
  info := by
    have h : (Tryd.prog.info? 5).map (fun i => (i.zero, i.size, i.bytes)) = some (some (.int .u8 0), 1, 1) := by kernel_rfl
    cases hi : Tryd.prog.info? 5 with
    | none => rw [hi] at h; cases h
    | some i => rw [hi] at h; simp only [Option.map_some, Option.some.injEq, Prod.mk.injEq] at h; exact ⟨i, _, rfl, h.1, h.2.1, h.2.2, rfl⟩
  one := fun _ => rfl
theorem dig_eq : ∀ (k : Nat) (hk : k < 16), Value.int .u8 ((({ data := #[48, 49, 50, 51, 52, 53, 54, 55, 56, 57, 97, 98, 99, 100, 101, 102] } : ByteArray)[k]'hk).toNat : Nat) = bv (digB[k]?.getD 0) := by
  intro k hk
  match k, hk with
  | 0, _ => rfl
  | 1, _ => rfl
  | 2, _ => rfl
  | 3, _ => rfl
  | 4, _ => rfl
  | 5, _ => rfl
  | 6, _ => rfl
  | 7, _ => rfl
  | 8, _ => rfl
  | 9, _ => rfl
  | 10, _ => rfl
  | 11, _ => rfl
  | 12, _ => rfl
  | 13, _ => rfl
  | 14, _ => rfl
  | 15, _ => rfl
  | k + 16, h => exact absurd h (by omega)
theorem dig_run (k : Nat) (i : Int) (hi : i = (k : Int)) (hk : k < 16) (W : World) : (Instr.index 9 (.string { data := #[48, 49, 50, 51, 52, 53, 54, 55, 56, 57, 97, 98, 99, 100, 101, 102] }) (.int .u8 i)).run Tryd.prog W = .ok (bv (digB.getD k 0)) W := by
  subst hi
  have h1 : (0 : Int) ≤ (k : Int) := by omega
  unfold Instr.index
  go_simp
  exact dig_eq k hk
theorem idx34 (g m c k : Nat) (i : Int) (hi : i = (k : Int)) (h : k < m) (W : World) : (Instr.indexAt 34 (.slice (some ⟨g, 0, none⟩) m c) (.int .i64 i)).run Tryd.prog W = .ok (.pointer (some ⟨g, k, none⟩)) W := by
  subst hi
  have h1 : (0 : Int) ≤ (k : Int) ∧ (k : Int) < (m : Int) := by omega
  go_simp
theorem conv_to (s : ByteArray) (w : World) : ∃ c W', (convert 9 34 (.string s)).run Tryd.prog w = .ok (.slice (some ⟨w.heap.size, 0, none⟩) s.size c) W' ∧ (∀ j, j < s.size → W'.cell? ⟨w.heap.size, j, none⟩ = some (bv (s.data.toList.getD j 0))) ∧ Below w.heap.size w W' ∧ w.heap.size < W'.heap.size := by
  refine ⟨_, _, run_bytes_of_string w 9 34 5 s Tryd.underlying9 Tryd.underlying34 Tryd.underlying5, fun j hj => ?_, (Below.drew (Below.refl _ _)).alloc (Nat.le_refl _) _, ?_⟩
  · have hc : ∀ (C : Array Value) (f : Nat × Nat) (v : Value), C[j]? = some v → (w.drew.alloc (.cells C 5 f)).cell? ⟨w.heap.size, j, none⟩ = some v := fun C f v hv => by
      have hh : (w.drew.alloc (.cells C 5 f)).heap[w.heap.size]? = some (.cells C 5 f) := by
        show (w.heap.push (.cells C 5 f))[w.heap.size]? = _
        simp
      unfold World.cell?
      rw [hh]
      simp [hv]
    apply hc
    unfold bytesRow bv
    have hj' : j < s.data.size := hj
    rw [Array.getElem?_append_left (by simpa using hj')]
    simp only [List.getD_eq_getElem?_getD, Array.getElem?_map, Array.getElem?_toList]
    rw [Array.getElem?_eq_getElem hj']
    simp
  · show w.heap.size < (w.heap.push _).size
    simp
theorem str_of (l : List UInt8) : strOfNums (l.map (fun c => (c.toNat : Int))) = ofL l := by
  apply ByteArray.ext
  apply Array.toList_inj.1
  rw [strOfNums_data, List.map_map]
  unfold ofL
  exact (List.map_congr_left (fun c _ => by simp)).trans (List.map_id l)
theorem conv_back {B n : Nat} {v : Value} {l : List UInt8} {W : World} (h : Ow bv W B 5 v n l) (hn : 0 < n) : (convert 34 9 v).run Tryd.prog W = .ok (.string (ofL l)) W := by
  obtain ⟨A, c, rfl, hsl⟩ := h.sl
  obtain ⟨g, off, rfl, _, hc⟩ := hsl.rd.2 hn
  have hl := hsl.rd.1
  rw [← str_of l]
  refine run_convert_bytes_arg W 34 5 Tryd.underlying34 Tryd.underlying5 g off n c _ (by rw [List.length_map]; exact hl) (fun i hi => ?_) 9 Tryd.underlying9
  have hx : l[i]? = some (l.getD i 0) := by rw [List.getD_eq_getElem?_getD, List.getElem?_eq_getElem (by omega)]; rfl
  rw [hc i _ hx]
  have hm : (l.map (fun c => (c.toNat : Int)))[i]? = some ((l.getD i 0).toNat : Int) := by rw [List.getElem?_map, hx]; rfl
  rw [List.getD_eq_getElem?_getD (l := l.map _), hm]; rfl
theorem hexL_app (a b : List UInt8) : hexL (a ++ b) = hexL a ++ hexL b := by
  induction a with
  | nil => rfl
  | cons c l ih => rw [List.cons_append, hexL, hexL, ih]; rfl
theorem hexL_len (l : List UInt8) : (hexL l).length = 2 * l.length := by
  induction l with
  | nil => rfl
  | cons c l ih => rw [hexL, List.length_cons, List.length_cons, ih, List.length_cons]; omega
theorem and15_ : ∀ x : Fin 256, bits .and .u8 (x.1 : Int) 15 = (x.1 : Int) % 16 := by decide +kernel
theorem and15 (x : Nat) (h : x < 256) : bits .and .u8 (x : Int) 15 = (x : Int) % 16 := and15_ ⟨x, h⟩
set_option maxRecDepth 100000 in
set_option maxHeartbeats 8000000 in
theorem hex_any (s : ByteArray) (w : World) (hs : s.size ≤ 100000) : Calls Tryd.prog 39 #[.string s] w fun e w' => e = .returned (.string (hexP s)) ∧ Below w.heap.size w w' := by
  by_cases h0 : s.size = 0
  · have hp : hexP s = { data := #[45] } := by unfold hexP; rw [if_pos h0]
    rw [hp]
    have e0 : s.toList.isEmpty = true := by
      rw [ByteArray.toList_eq, List.isEmpty_iff]
      exact List.eq_nil_of_length_eq_zero h0
    clear h0 hp
    go_enter Tryd.func39, Tryd.ntmps39
    go_wp2
    go_ret
    exact ⟨rfl, Below.refl _ _⟩
  · have hp : hexP s = ofL (hexL s.data.toList) := by unfold hexP; rw [if_neg h0]
    rw [hp]
    have e0 : s.toList.isEmpty = false := by
      rw [ByteArray.toList_eq, Bool.eq_false_iff]
      intro e
      rw [List.isEmpty_iff] at e
      exact h0 (by have := congrArg List.length e; exact this)
    obtain ⟨c, W1, hcv, hcells, hb1, hlt1⟩ := conv_to s w
    have HCL := Lib.hid hcells
    have HB1 := Lib.hid hb1
    have HL1 := Lib.hid hlt1
    obtain ⟨n, hn⟩ : ∃ n, s.size = n := ⟨_, rfl⟩
    rw [hn] at hcv hs h0 HCL
    obtain ⟨L, hL⟩ : ∃ L, s.data.toList = L := ⟨_, rfl⟩
    have HLN : Hid (L.length = n) := by show _ = _; rw [← hL, ← hn]; rfl
    rw [hL] at HCL ⊢
    clear hp hcells hb1 hlt1 hL
    go_enter Tryd.func39, Tryd.ntmps39
    go_wp2
    go_loopw [3, 11] (fun al ix W => ∃ (k : Nat) (v : Value), k ≤ n ∧ ix = .int .i64 k ∧ al = v ∧ Ow bv W W1.heap.size 5 v (2 * k) (hexL (L.take k)) ∧ Below W1.heap.size W1 W) (fun _ ix _ => n - (intOf ix).toNat)
    case atStart => exact ⟨0, _, Nat.zero_le _, rfl, rfl, Ow.none _ _ _, Below.refl _ _⟩
    case round =>
      obtain ⟨k, v, hk, rfl, rfl, ho, hb⟩ := hrel
      have HO := Lib.hid ho
      have HB := Lib.hid hb
      clear ho hb
      by_cases hlt : k < n
      · have d1 : decide ((k : Int) < (n : Int)) = true := decide_eq_true (by omega)
        have wk : IntKind.i64.wrap ((k : Int) + 1) = (k : Int) + 1 := IntWalk.i64_in _ (by omega)
        have i1 := idx34 w.heap.size n c k (k : Int) rfl hlt
        have hx := HCL.out k hlt
        obtain ⟨ch, hch⟩ : ∃ ch, L.getD k 0 = ch := ⟨_, rfl⟩
        rw [hch] at hx
        have x1 : wr.cell? ⟨w.heap.size, k, none⟩ = some (.int .u8 (ch.toNat : Nat)) := (HB.out.cell (p := ⟨w.heap.size, k, none⟩) HL1.out).trans hx
        clear hx
        have hlt8 := ch.toNat_lt
        have f1 := dig_run (ch.toNat / 16) ((ch.toNat : Int) / 16) (by omega) (by omega)
        have f2 := dig_run (ch.toNat % 16) ((ch.toNat : Int) % 16) (by omega) (by omega)
        have f3 := and15 ch.toNat hlt8
        obtain ⟨hi, hhi⟩ : ∃ x, digB.getD (ch.toNat / 16) 0 = x := ⟨_, rfl⟩
        obtain ⟨lo, hlo⟩ : ∃ x, digB.getD (ch.toNat % 16) 0 = x := ⟨_, rfl⟩
        have HHX : Hid (hexL (L.take (k + 1)) = hexL (L.take k) ++ [hi, lo]) := by
          have hx : L[k]? = some ch := by rw [← hch, List.getD_eq_getElem?_getD, List.getElem?_eq_getElem (by rw [HLN.out]; exact hlt)]; rfl
          show _ = _
          rw [List.take_add_one, hx, hexL_app, ← hhi, ← hlo]; rfl
        rw [hhi] at f1
        rw [hlo] at f2
        unfold bv at f1 f2
        clear hhi hlo hch hlt8
        go_upto_region 7 with (fail)
        refine wp_region_noPanic ?_
        have hbd : Below wr.heap.size wr wr.drew := Below.drew (Below.refl _ _)
        have HO2 := Lib.hid (HO.out.later hbd)
        have HB2 := Lib.hid (stepB HB.out hbd)
        clear hbd HO HB x1
        refine wp_region_held_drew (S := fun _ => True) (by kernel_rfl) trivial (fun hHeld => ?_)
        generalize wr.drew = w2 at *
        refine wpAnyH_take (i := 0) (oi := { dst := some 15, op := Op.move (Operand.tmp 3), type := 34, pos := "call.go:145", after := #[], guard := none }) (v := ?_) rfl (by kernel_rfl) (by kernel_rfl) (by kernel_rfl) (fun _ _ _ h => h) (Or.inl ⟨by rfl, ?_⟩) (by assumption) ?_
        rotate_left
        · intro W hSw
          clear hSw
          go_simp
          try with_reducible rfl
        simp only [Act.put, List.setIfInBounds_toArray, List.set_cons_zero, List.set_cons_succ]
        refine wpAnyH_take (i := 1) (oi := { dst := some 16, op := Op.move (Operand.tmp 5), type := 5, pos := "call.go:145", after := #[], guard := none }) (v := ?_) rfl (by kernel_rfl) (by kernel_rfl) (by kernel_rfl) (fun _ _ _ h => h) (Or.inl ⟨by rfl, ?_⟩) (by assumption) ?_
        rotate_left
        · intro W hSw
          clear hSw
          go_simp
          try with_reducible rfl
        simp only [Act.put, List.setIfInBounds_toArray, List.set_cons_zero, List.set_cons_succ]
        refine wpAnyH_take (i := 2) (oi := { dst := some 17, op := Op.binOp BinOp.shr 5 (Operand.tmp 16) (Operand.const (Value.int IntKind.u64 4)) 49, type := 5, pos := "call.go:145", after := #[{ on := 1, ground := Ground.data }], guard := none }) (v := ?_) rfl (by kernel_rfl) (by kernel_rfl) (by kernel_rfl) (fun _ _ _ h => h) (Or.inl ⟨by rfl, ?_⟩) (by assumption) ?_
        rotate_left
        · intro W hSw
          clear hSw
          go_simp
          try with_reducible rfl
        simp only [Act.put, List.setIfInBounds_toArray, List.set_cons_zero, List.set_cons_succ]
        refine wpAnyH_take (i := 3) (oi := { dst := some 18, op := Op.index 9 (Operand.const (Value.string { data := #[48, 49, 50, 51, 52, 53, 54, 55, 56, 57, 97, 98, 99, 100, 101, 102] })) (Operand.tmp 17), type := 5, pos := "call.go:145", after := #[{ on := 2, ground := Ground.data }], guard := none }) (v := ?_) rfl (by kernel_rfl) (by kernel_rfl) (by kernel_rfl) (fun _ _ _ h => h) (Or.inl ⟨by rfl, ?_⟩) (by assumption) ?_
        rotate_left
        · intro W hSw
          clear hSw
          go_simp
          try with_reducible rfl
        simp only [Act.put, List.setIfInBounds_toArray, List.set_cons_zero, List.set_cons_succ]
        refine wpAnyH_take (i := 4) (oi := { dst := some 19, op := Op.move (Operand.tmp 5), type := 5, pos := "call.go:145", after := #[], guard := none }) (v := ?_) rfl (by kernel_rfl) (by kernel_rfl) (by kernel_rfl) (fun _ _ _ h => h) (Or.inl ⟨by rfl, ?_⟩) (by assumption) ?_
        rotate_left
        · intro W hSw
          clear hSw
          go_simp
          try with_reducible rfl
        simp only [Act.put, List.setIfInBounds_toArray, List.set_cons_zero, List.set_cons_succ]
        refine wpAnyH_take (i := 5) (oi := { dst := some 20, op := Op.binOp BinOp.and 5 (Operand.tmp 19) (Operand.const (Value.int IntKind.u8 15)) 5, type := 5, pos := "call.go:145", after := #[{ on := 4, ground := Ground.data }], guard := none }) (v := ?_) rfl (by kernel_rfl) (by kernel_rfl) (by kernel_rfl) (fun _ _ _ h => h) (Or.inl ⟨by rfl, ?_⟩) (by assumption) ?_
        rotate_left
        · intro W hSw
          clear hSw
          go_simp
          try with_reducible rfl
        simp only [Act.put, List.setIfInBounds_toArray, List.set_cons_zero, List.set_cons_succ]
        refine wpAnyH_take (i := 6) (oi := { dst := some 21, op := Op.index 9 (Operand.const (Value.string { data := #[48, 49, 50, 51, 52, 53, 54, 55, 56, 57, 97, 98, 99, 100, 101, 102] })) (Operand.tmp 20), type := 5, pos := "call.go:145", after := #[{ on := 5, ground := Ground.data }], guard := none }) (v := ?_) rfl (by kernel_rfl) (by kernel_rfl) (by kernel_rfl) (fun _ _ _ h => h) (Or.inl ⟨by rfl, ?_⟩) (by assumption) ?_
        rotate_left
        · intro W hSw
          clear hSw
          go_simp
          try with_reducible rfl
        simp only [Act.put, List.setIfInBounds_toArray, List.set_cons_zero, List.set_cons_succ]
        refine wpAnyH_ready (rs := [7]) (by kernel_rfl) (by simp) (AllReadyH.cons (o := { dst := some 22, op := Op.buildSlice 34 2 #[(0, Operand.tmp 18), (1, Operand.tmp 21)], type := 34, pos := "call.go:145", after := #[{ on := 3, ground := Ground.data }, { on := 6, ground := Ground.data }], guard := none }) rfl (fun K hK => ?_) AllReadyH.nil)
        go_simp
        have hby : Below w2.heap.size w2 (w2.alloc (.cells #[.int .u8 (hi.toNat : Nat), .int .u8 (lo.toNat : Nat)] 5)) := (Below.refl _ _).alloc (Nat.le_refl _) _
        have HX3 : Hid (Sl bv (w2.alloc (.cells #[.int .u8 (hi.toNat : Nat), .int .u8 (lo.toNat : Nat)] 5)) (some ⟨w2.heap.size, 0, none⟩) 2 2 [hi, lo]) := Blk.sl (enc := bv) (xs := [hi, lo]) (Blk.new w2 #[.int .u8 (hi.toNat : Nat), .int .u8 (lo.toNat : Nat)] 5)
        have HO3 := Lib.hid (HO2.out.later hby)
        have HB3 := Lib.hid (stepB HB2.out hby)
        clear hby HO2 HB2
        refine hK.out _ _ trivial (fun hHeld2 => ?_)
        clear hK K hHeld
        have hHeld := hHeld2
        clear hHeld2
        try simp only [Act.put, List.setIfInBounds_toArray, List.set_cons_zero, List.set_cons_succ]
        generalize w2.alloc (.cells #[.int .u8 (hi.toNat : Nat), .int .u8 (lo.toNat : Nat)] 5) = w3 at *
        generalize w2.heap.size = xq at *
        refine wpAnyH_ready (rs := [8]) (by kernel_rfl) (by simp) (AllReadyH.cons (o := { dst := some 23, op := Op.call { callee := Callee.builtin Builtin.append, args := #[Operand.tmp 15, Operand.tmp 22], argTypes := #[34, 34] }, type := 34, pos := "call.go:145", after := #[{ on := 0, ground := Ground.data }, { on := 7, ground := Ground.data }], guard := none }) rfl (fun K hK => ?_) AllReadyH.nil)
        refine step_append_sl elemB rfl (.tmp 15) (.tmp 22) rfl W1.heap.size _ (2 * k) (hexL (L.take k)) rfl HO3.out (some ⟨xq, 0, none⟩) 2 2 [hi, lo] rfl HX3.out (by omega) (by decide) HB3.out.size (fun v8 w8 ho8 hg8 => ?_)
        have HO8 : Hid (Ow bv w8 W1.heap.size 5 v8 (2 * (k + 1)) (hexL (L.take (k + 1)))) := by rw [HHX.out]; exact ho8
        have HB8 : Hid (Below W1.heap.size W1 w8) := HB3.out.grown hg8 HB3.out.size (fun j e => (Ow.lt HO3.out j e).1)
        clear ho8 hg8 HO3 HB3 HX3
        refine hK.out _ _ trivial (fun hHeld2 => ?_)
        clear hK K hHeld
        have hHeld := hHeld2
        clear hHeld2
        try simp only [Act.put, List.setIfInBounds_toArray, List.set_cons_zero, List.set_cons_succ]
        refine wpAnyH_take (i := 9) (oi := { dst := some 3, op := Op.assign (Operand.tmp 23), type := 34, pos := "call.go:145", after := #[{ on := 8, ground := Ground.data }, { on := 8, ground := Ground.chain }, { on := 0, ground := Ground.phase }, { on := 1, ground := Ground.phase }, { on := 2, ground := Ground.phase }, { on := 3, ground := Ground.phase }, { on := 4, ground := Ground.phase }, { on := 5, ground := Ground.phase }, { on := 6, ground := Ground.phase }, { on := 7, ground := Ground.phase }, { on := 8, ground := Ground.phase }], guard := none }) (v := ?_) rfl (by kernel_rfl) (by kernel_rfl) (by kernel_rfl) (fun _ _ _ h => h) (Or.inl ⟨by rfl, ?_⟩) (by assumption) ?_
        rotate_left
        · intro W hSw
          clear hSw
          go_simp
          try with_reducible rfl
        simp only [Act.put, List.setIfInBounds_toArray, List.set_cons_zero, List.set_cons_succ]
        refine wpAnyH_done (by kernel_rfl) (NoPanic.normal ?_) _
        clear hHeld
        go_wp2
        go_roundw
        case rel => exact ⟨k + 1, _, by omega, by go_num, rfl, HO8.out, HB8.out⟩
        case measure => simp [intOf]; omega
      · obtain rfl : k = n := by omega
        have d1 : decide ((k : Int) < (k : Int)) = false := decide_eq_false (by omega)
        have ho := HO.out
        rw [← HLN.out, List.take_length] at ho
        have hcb := conv_back ho (by rw [HLN.out]; omega)
        have HBE := Lib.hid (stepB HB1.out HB.out)
        clear ho
        go_wp2
        go_ret
        exact ⟨rfl, HBE.out⟩
end Go.Proofs.YtkgdmdcnhbaidaaDoor
