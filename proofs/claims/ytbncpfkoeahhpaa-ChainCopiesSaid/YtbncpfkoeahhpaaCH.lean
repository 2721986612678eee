/- Stamp, Cut, Copy. -/
import Derived.Test.YtbncpfkoeahhpaaCG
namespace Go.Proofs.Ytbncpfkoeahhpaa
open Go.ChangeShapes Go.WideShapes Go.ChangeAt Go.RowKit Go.Maps
set_option linter.unusedVariables false
set_option linter.unusedSimpArgs false

set_option maxRecDepth 100000 in
set_option maxHeartbeats 4000000 in
theorem stamp_bad (q : Nat) (x ts : Int) (w : World) (ht : ts < 1 ∨ 1048576 < ts) : Calls Try.prog 12 #[.pointer (some ⟨q, 0, none⟩), .int .u64 x, .int .i64 ts] w fun e w' => e = .returned (.int .i64 1) ∧ Below w.heap.size w w' := by
  have HB0 : Hid (Below w.heap.size w (w.alloc (.cells #[.int .i64 ts] 3))) := (Below.refl _ _).alloc (Nat.le_refl _) _
  by_cases h1 : ts < 1
  · have d1 : decide (ts < 1) = true := decide_eq_true h1
    clear h1 ht
    go_enter Try.func12, Try.ntmps12
    go_wp2
    go_ret
    exact ⟨rfl, HB0.out⟩
  · have d1 : decide (ts < 1) = false := decide_eq_false h1
    have d2 : decide ((1048576 : Int) < ts) = true := decide_eq_true (by omega)
    clear h1 ht
    go_enter Try.func12, Try.ntmps12
    go_wp2
    go_ret
    exact ⟨rfl, HB0.out⟩
set_option maxRecDepth 100000 in
set_option maxHeartbeats 4000000 in
theorem stamp_no (B q : Nat) (cf : Conf) (a m : Nat) (st : AS) (S : Nat → Prop) (nd : Int → Nd) (U : List Int) (K : Nat) (w : World) (h : CR w B q cf a m st S) (hi : CI m st nd U K) (x : Int) (hx : hR x) (hn : isA st x = false) (ts : Int) (ht : 1 ≤ ts ∧ ts ≤ 1048576) : Calls Try.prog 12 #[.pointer (some ⟨q, 0, none⟩), .int .u64 x, .int .i64 ts] w fun e w' => e = .returned (.int .i64 5) ∧ Below w.heap.size w w' := by
  have hb0 : Below w.heap.size w (w.alloc (.cells #[.int .i64 ts] 3)) := (Below.refl _ _).alloc (Nat.le_refl _) _
  have HB0 := Lib.hid hb0
  have HK0 : Hid (Blk (w.alloc (.cells #[.int .i64 ts] 3)) w.heap.size #[.int .i64 ts] 3) := Blk.new _ _ _
  have HR0 := Lib.hid (h.later hb0)
  have HC := Lib.hid (fun fv => change_no B q cf a m st S nd U K _ HR0.out hi x hx hn fv)
  have d1 : decide (ts < 1) = false := decide_eq_false (by omega)
  have d2 : decide ((1048576 : Int) < ts) = false := decide_eq_false (by omega)
  clear h hi hx hn hb0 ht
  go_enter Try.func12, Try.ntmps12
  go_wp2_with fail
  refine (HC.out _).mono ?_
  rintro e w1 ⟨rfl, hb⟩
  have HB1 := Lib.hid (stepB HB0.out hb)
  clear hb
  go_wp2
  go_ret
  exact ⟨rfl, HB1.out⟩
set_option maxRecDepth 100000 in
set_option maxHeartbeats 4000000 in
theorem stamp_yes (B q : Nat) (cf : Conf) (a m : Nat) (st : AS) (S : Nat → Prop) (nd : Int → Nd) (U : List Int) (K : Nat) (w : World) (h : CR w B q cf a m st S) (hi : CI m st nd U K) (x : Int) (hx : hR x) (hn : isA st x = true) (ts : Int) (ht : 1 ≤ ts ∧ ts ≤ 1048576) : Calls Try.prog 12 #[.pointer (some ⟨q, 0, none⟩), .int .u64 x, .int .i64 ts] w (CEnd B q cf a m (wrA (27 + m) x (encT (((nd x).1.1, ts, (nd x).1.2.2), (nd x).2)) st) S (.int .i64 0) w) := by
  have hb0 : Below w.heap.size w (w.alloc (.cells #[.int .i64 ts] 3)) := (Below.refl _ _).alloc (Nat.le_refl _) _
  have HB0 := Lib.hid hb0
  have HK0 : Hid (Blk (w.alloc (.cells #[.int .i64 ts] 3)) w.heap.size #[.int .i64 ts] 3) := Blk.new _ _ _
  have HR0 := Lib.hid (h.later hb0)
  have hv := (hi.val x hx hn).1
  have HC := Lib.hid (change_yes B q cf a m st S nd U K _ HR0.out hi x hx hn 34 #[.pointer (some ⟨w.heap.size, 0, none⟩)] (fun n => ((n.1.1, ts, n.1.2.2), n.2)) cf34 (clo_stamp w.heap.size ts _ HK0.out) ⟨hv.1, ⟨by simp only; omega, by simp only; omega⟩, hv.2.2⟩)
  have d1 : decide (ts < 1) = false := decide_eq_false (by omega)
  have d2 : decide ((1048576 : Int) < ts) = false := decide_eq_false (by omega)
  try simp only at HC
  generalize wrA (27 + m) x (encT (((nd x).1.1, ts, (nd x).1.2.2), (nd x).2)) st = st2 at *
  clear h hi hx hn hb0 ht hv
  go_enter Try.func12, Try.ntmps12
  go_wp2_with fail
  refine HC.out.mono ?_
  rintro e w1 ⟨rfl, hE⟩
  have HE := Lib.hid (CEnd.from HB0.out (⟨rfl, hE⟩ : CEnd B q cf a m st2 S (.int .i64 0) _ _ w1))
  clear hE
  go_wp2
  go_ret
  exact HE.out
set_option maxRecDepth 100000 in
set_option maxHeartbeats 4000000 in
theorem cut_no (B q : Nat) (cf : Conf) (a m : Nat) (st : AS) (S : Nat → Prop) (nd : Int → Nd) (U : List Int) (K : Nat) (w : World) (h : CR w B q cf a m st S) (hi : CI m st nd U K) (x : Int) (hx : hR x) (hn : isA st x = false) : Calls Try.prog 13 #[.pointer (some ⟨q, 0, none⟩), .int .u64 x] w fun e w' => e = .returned (.int .i64 5) ∧ Below w.heap.size w w' := by
  have HC := Lib.hid (fun fv => change_no B q cf a m st S nd U K w h hi x hx hn fv)
  clear h hi hx hn
  go_enter Try.func13, Try.ntmps13
  go_wp2_with fail
  refine (HC.out _).mono ?_
  rintro e w1 ⟨rfl, hb⟩
  have HB1 := Lib.hid hb
  clear hb
  go_wp2
  go_ret
  exact ⟨rfl, HB1.out⟩
set_option maxRecDepth 100000 in
set_option maxHeartbeats 4000000 in
theorem cut_yes (B q : Nat) (cf : Conf) (a m : Nat) (st : AS) (S : Nat → Prop) (nd : Int → Nd) (U : List Int) (K : Nat) (w : World) (h : CR w B q cf a m st S) (hi : CI m st nd U K) (x : Int) (hx : hR x) (hn : isA st x = true) : Calls Try.prog 13 #[.pointer (some ⟨q, 0, none⟩), .int .u64 x] w (CEnd B q cf a m (wrA (27 + m) x (encT ((nd x).1, 0)) st) S (.int .i64 0) w) := by
  have hv := (hi.val x hx hn).1
  have HC := Lib.hid (change_yes B q cf a m st S nd U K w h hi x hx hn 35 #[] (fun n => (n.1, 0)) cf35 (clo_cut w) ⟨hv.1, hv.2.1, hv.2.2.1, hv.2.2.2.1, by simp⟩)
  try simp only at HC
  generalize wrA (27 + m) x (encT ((nd x).1, 0)) st = st2 at *
  clear h hi hx hn hv
  go_enter Try.func13, Try.ntmps13
  go_wp2_with fail
  refine HC.out.mono ?_
  rintro e w1 ⟨rfl, hE⟩
  have HE := Lib.hid hE
  clear hE
  go_wp2
  go_ret
  exact ⟨rfl, HE.out⟩
abbrev SCp (q a : Nat) (cf : Conf) (W : World) : Prop := W.cell? ⟨q, 0, none⟩ = some (.int .i64 cf.ta) ∧ W.cell? ⟨q, 1, none⟩ = some (.int .i64 cf.ac) ∧ W.cell? ⟨q, 2, none⟩ = some (.int .i64 cf.ke) ∧ W.cell? ⟨q, 3, none⟩ = some (.int .i64 cf.de) ∧ W.cell? ⟨q, 4, none⟩ = some (.int .i64 cf.ts) ∧ W.cell? ⟨q, 5, none⟩ = some (.int .i64 cf.kl) ∧ W.cell? ⟨q, 6, none⟩ = some (.int .i64 cf.vl) ∧ W.cell? ⟨q, 7, none⟩ = some (.int .i64 cf.fa) ∧ W.cell? ⟨q, 8, none⟩ = some (.pointer (some ⟨a, 0, none⟩))
def CpC (cf : Conf) (m : Nat) (st : AS) (w : World) (e : Ending) (w' : World) : Prop := ∃ q a S, e = .returned (.pointer (some ⟨q, 0, none⟩)) ∧ CR w' w.heap.size q cf a m st S ∧ Below w.heap.size w w'
set_option maxRecDepth 100000 in
set_option maxHeartbeats 8000000 in
theorem chcopy_any (B q : Nat) (cf : Conf) (a m : Nat) (st : AS) (S : Nat → Prop) (w : World) (h : CR w B q cf a m st S) : Calls Try.prog 17 #[.pointer (some ⟨q, 0, none⟩)] w (CpC cf m st w) := by
  have HV := Lib.hid h.vl
  have HM := Lib.hid h.may
  have HR := Lib.hid h
  have hbt := built68 cf
  clear h
  go_enter Try.func17, Try.ntmps17
  go_upto_region 3 with (fail)
  have HGL : Hid (∀ W, Below w.heap.size w W → SCp q a cf W) := fun W hb => by
    have l := (HR.out.later hb).blk
    exact ⟨l.cell 0, l.cell 1, l.cell 2, l.cell 3, l.cell 4, l.cell 5, l.cell 6, l.cell 7, l.cell 8⟩
  refine wp_region_noPanic ?_
  have hbd : Below w.heap.size w w.drew := Below.drew (Below.refl _ _)
  have HR4 := Lib.hid (HR.out.later hbd)
  have HB4 := Lib.hid hbd
  clear hbd HR
  refine wp_region_held_drew (S := SCp q a cf) (by kernel_rfl) (HGL.out _ HB4.out) (fun hHeld => ?_)
  generalize w.drew = w4 at *
  refine wpAnyH_take (i := 0) (oi := { dst := some 5, op := Op.move (Operand.tmp 0), type := 22, pos := "chain.go:189", after := #[], guard := none }) (v := ?_) rfl (by kernel_rfl) (by kernel_rfl) (by kernel_rfl) (fun _ _ _ h => h) (Or.inl ⟨by rfl, ?_⟩) (by assumption) ?_
  rotate_left
  · intro W hSw
    obtain ⟨j0, j1, j2, j3, j4, j5, j6, j7, j8⟩ := hSw
    go_simp
    try with_reducible rfl
  simp only [Act.put, List.setIfInBounds_toArray, List.set_cons_zero, List.set_cons_succ]
  refine wpAnyH_take (i := 1) (oi := { dst := some 6, op := Op.nilCheck (Operand.tmp 5), type := 0, pos := "chain.go:189", after := #[{ on := 0, ground := Ground.data }], guard := none }) (v := ?_) rfl (by kernel_rfl) (by kernel_rfl) (by kernel_rfl) (fun _ _ _ h => h) (Or.inl ⟨by rfl, ?_⟩) (by assumption) ?_
  rotate_left
  · intro W hSw
    obtain ⟨j0, j1, j2, j3, j4, j5, j6, j7, j8⟩ := hSw
    go_simp
    try with_reducible rfl
  simp only [Act.put, List.setIfInBounds_toArray, List.set_cons_zero, List.set_cons_succ]
  refine wpAnyH_take (i := 2) (oi := { dst := some 7, op := Op.fieldAddr 68 (Operand.tmp 6) 0, type := 0, pos := "chain.go:189", after := #[{ on := 1, ground := Ground.data }], guard := none }) (v := ?_) rfl (by kernel_rfl) (by kernel_rfl) (by kernel_rfl) (fun _ _ _ h => h) (Or.inl ⟨by rfl, ?_⟩) (by assumption) ?_
  rotate_left
  · intro W hSw
    obtain ⟨j0, j1, j2, j3, j4, j5, j6, j7, j8⟩ := hSw
    go_simp
    try with_reducible rfl
  simp only [Act.put, List.setIfInBounds_toArray, List.set_cons_zero, List.set_cons_succ]
  refine wpAnyH_take (i := 3) (oi := { dst := some 8, op := Op.load 43 (Operand.tmp 7), type := 43, pos := "chain.go:189", after := #[{ on := 2, ground := Ground.data }], guard := none }) (v := ?_) rfl (by kernel_rfl) (by kernel_rfl) (by kernel_rfl) (fun _ _ _ h => h) (Or.inl ⟨by rfl, ?_⟩) (by assumption) ?_
  rotate_left
  · intro W hSw
    obtain ⟨j0, j1, j2, j3, j4, j5, j6, j7, j8⟩ := hSw
    go_simp
    try with_reducible rfl
  simp only [Act.put, List.setIfInBounds_toArray, List.set_cons_zero, List.set_cons_succ]
  refine wpAnyH_take (i := 4) (oi := { dst := some 9, op := Op.move (Operand.tmp 0), type := 22, pos := "chain.go:189", after := #[], guard := none }) (v := ?_) rfl (by kernel_rfl) (by kernel_rfl) (by kernel_rfl) (fun _ _ _ h => h) (Or.inl ⟨by rfl, ?_⟩) (by assumption) ?_
  rotate_left
  · intro W hSw
    obtain ⟨j0, j1, j2, j3, j4, j5, j6, j7, j8⟩ := hSw
    go_simp
    try with_reducible rfl
  simp only [Act.put, List.setIfInBounds_toArray, List.set_cons_zero, List.set_cons_succ]
  refine wpAnyH_take (i := 5) (oi := { dst := some 10, op := Op.nilCheck (Operand.tmp 9), type := 0, pos := "chain.go:189", after := #[{ on := 4, ground := Ground.data }], guard := none }) (v := ?_) rfl (by kernel_rfl) (by kernel_rfl) (by kernel_rfl) (fun _ _ _ h => h) (Or.inl ⟨by rfl, ?_⟩) (by assumption) ?_
  rotate_left
  · intro W hSw
    obtain ⟨j0, j1, j2, j3, j4, j5, j6, j7, j8⟩ := hSw
    go_simp
    try with_reducible rfl
  simp only [Act.put, List.setIfInBounds_toArray, List.set_cons_zero, List.set_cons_succ]
  refine wpAnyH_take (i := 6) (oi := { dst := some 11, op := Op.fieldAddr 68 (Operand.tmp 10) 1, type := 0, pos := "chain.go:189", after := #[{ on := 5, ground := Ground.data }], guard := none }) (v := ?_) rfl (by kernel_rfl) (by kernel_rfl) (by kernel_rfl) (fun _ _ _ h => h) (Or.inl ⟨by rfl, ?_⟩) (by assumption) ?_
  rotate_left
  · intro W hSw
    obtain ⟨j0, j1, j2, j3, j4, j5, j6, j7, j8⟩ := hSw
    go_simp
    try with_reducible rfl
  simp only [Act.put, List.setIfInBounds_toArray, List.set_cons_zero, List.set_cons_succ]
  refine wpAnyH_take (i := 7) (oi := { dst := some 12, op := Op.load 66 (Operand.tmp 11), type := 66, pos := "chain.go:189", after := #[{ on := 6, ground := Ground.data }], guard := none }) (v := ?_) rfl (by kernel_rfl) (by kernel_rfl) (by kernel_rfl) (fun _ _ _ h => h) (Or.inl ⟨by rfl, ?_⟩) (by assumption) ?_
  rotate_left
  · intro W hSw
    obtain ⟨j0, j1, j2, j3, j4, j5, j6, j7, j8⟩ := hSw
    go_simp
    try with_reducible rfl
  simp only [Act.put, List.setIfInBounds_toArray, List.set_cons_zero, List.set_cons_succ]
  refine wpAnyH_ready (rs := [8]) (by kernel_rfl) (by simp) (AllReadyH.cons (o := { dst := some 13, op := Op.call { callee := Callee.value (Operand.func 39), args := #[Operand.tmp 12], argTypes := #[66] }, type := 66, pos := "chain.go:189", after := #[{ on := 7, ground := Ground.data }], guard := none }) rfl (fun K hK => ?_) AllReadyH.nil)
  refine step_callw (by rfl) 39 #[.pointer (some ⟨a, 0, none⟩)] (by go_simp) ?_
  refine (arcopy_any B a (27 + m) st S w4 HR4.out.ar).mono ?_
  rintro z w5 ⟨a2, S2, rfl, ha, hb⟩
  have HA5 := Lib.hid (ha.base HB4.out.size)
  have HB5 := Lib.hid (stepB HB4.out hb)
  clear hb ha HR4 HB4
  refine ⟨_, rfl, hK.out _ _ (HGL.out _ HB5.out) (fun hHeld2 => ?_)⟩
  clear hK K hHeld
  have hHeld := hHeld2
  clear hHeld2
  try simp only [Act.put, List.setIfInBounds_toArray, List.set_cons_zero, List.set_cons_succ]
  have hb2 := hbt a2
  refine wpAnyH_take (i := 9) (oi := { dst := some 14, op := Op.build 68 #[(0, Operand.tmp 8), (1, Operand.tmp 13)], type := 68, pos := "chain.go:189", after := #[{ on := 3, ground := Ground.data }, { on := 8, ground := Ground.data }], guard := none }) (v := ?_) rfl (by kernel_rfl) (by kernel_rfl) (by kernel_rfl) (fun _ _ _ h => h) (Or.inl ⟨by rfl, ?_⟩) (by assumption) ?_
  rotate_left
  · intro W hSw
    clear hSw
    go_simp
    try with_reducible rfl
  simp only [Act.put, List.setIfInBounds_toArray, List.set_cons_zero, List.set_cons_succ]
  refine wpAnyH_ready (rs := [10]) (by kernel_rfl) (by simp) (AllReadyH.cons (o := { dst := some 15, op := Op.box 68 (Operand.tmp 14), type := 22, pos := "chain.go:189", after := #[{ on := 9, ground := Ground.data }], guard := none }) rfl (fun K hK => ?_) AllReadyH.nil)
  go_simp
  have hby : Below w5.heap.size w5 (w5.alloc (.cells #[.int .i64 cf.ta, .int .i64 cf.ac, .int .i64 cf.ke, .int .i64 cf.de, .int .i64 cf.ts, .int .i64 cf.kl, .int .i64 cf.vl, .int .i64 cf.fa, .pointer (some ⟨a2, 0, none⟩)] 68)) := (Below.refl _ _).alloc (Nat.le_refl _) _
  have HE : Hid (CR (w5.alloc (.cells #[.int .i64 cf.ta, .int .i64 cf.ac, .int .i64 cf.ke, .int .i64 cf.de, .int .i64 cf.ts, .int .i64 cf.kl, .int .i64 cf.vl, .int .i64 cf.fa, .pointer (some ⟨a2, 0, none⟩)] 68)) w.heap.size w5.heap.size cf a2 m st S2) := ⟨HB5.out.size, Blk.new _ _ _, HA5.out.later hby, HV.out, HM.out⟩
  have HB6 := Lib.hid (stepB HB5.out hby)
  refine hK.out _ _ (HGL.out _ HB6.out) (fun hHeld2 => ?_)
  clear hK K hby
  try clear hHeld
  have hHeld := hHeld2
  clear hHeld2
  try simp only [Act.put, List.setIfInBounds_toArray, List.set_cons_zero, List.set_cons_succ]
  refine wpAnyH_take (i := 11) (oi := { dst := some 2, op := Op.assign (Operand.tmp 15), type := 22, pos := "chain.go:189", after := #[{ on := 10, ground := Ground.data }, { on := 8, ground := Ground.chain }, { on := 0, ground := Ground.phase }, { on := 1, ground := Ground.phase }, { on := 2, ground := Ground.phase }, { on := 3, ground := Ground.phase }, { on := 4, ground := Ground.phase }, { on := 5, ground := Ground.phase }, { on := 6, ground := Ground.phase }, { on := 7, ground := Ground.phase }, { on := 8, ground := Ground.phase }, { on := 9, ground := Ground.phase }, { on := 10, ground := Ground.phase }], guard := none }) (v := ?_) rfl (by kernel_rfl) (by kernel_rfl) (by kernel_rfl) (fun _ _ _ h => h) (Or.inl ⟨by rfl, ?_⟩) (by assumption) ?_
  rotate_left
  · intro W hSw
    clear hSw
    go_simp
    try with_reducible rfl
  simp only [Act.put, List.setIfInBounds_toArray, List.set_cons_zero, List.set_cons_succ]
  refine wpAnyH_done (by kernel_rfl) (NoPanic.normal ?_) _
  clear hHeld
  go_wp2
  go_ret
  exact ⟨_, a2, S2, rfl, HE.out, HB6.out⟩
end Go.Proofs.Ytbncpfkoeahhpaa
