/- A version is changed, stamped, cut. -/
import Derived.Test.YtbncpfkoeahhpaaCF
namespace Go.Proofs.Ytbncpfkoeahhpaa
open Go.ChangeShapes Go.WideShapes Go.ChangeAt Go.RowKit Go.Maps
set_option linter.unusedVariables false
set_option linter.unusedSimpArgs false

def ncl (n : Nd) : Array Value := #[.int .i64 n.1.1, .int .i64 n.1.2.1, .bool n.1.2.2.1, .string n.1.2.2.2, .int .u64 n.2]
theorem ndv_ncl (n : Nd) : ndv n = .agg (ncl n) := rfl
abbrev SCh (q p a : Nat) (wr_ t : Int) (b : Bool) (v : ByteArray) (y : Int) (W : World) : Prop := W.cell? ⟨q, 8, none⟩ = some (.pointer (some ⟨a, 0, none⟩)) ∧ W.cell? ⟨p, 0, none⟩ = some (.int .i64 wr_) ∧ W.cell? ⟨p, 1, none⟩ = some (.int .i64 t) ∧ W.cell? ⟨p, 2, none⟩ = some (.bool b) ∧ W.cell? ⟨p, 3, none⟩ = some (.string v) ∧ W.cell? ⟨p, 4, none⟩ = some (.int .u64 y)
theorem blk_t {W : World} {g : Nat} {c d : Array Value} {t u : TypeId} (h : Blk W g c t) (k : Blk W g d u) : t = u := by
  have h1 : W.heap[g]? = some (.cells c t (0, 0)) := h
  have h2 : W.heap[g]? = some (.cells d u (0, 0)) := k
  rw [h1] at h2
  simp only [Option.some.injEq, Obj.cells.injEq] at h2
  exact h2.2.1
/-- what a function does to a version in its box -/
def Clo (F : FuncId) (cap : Array Value) (f : Nd → Nd) (w : World) : Prop := ∀ W p n, Below w.heap.size w W → w.heap.size ≤ p → Blk W p (ncl n) 31 → Calls Try.prog F (#[.pointer (some ⟨p, 0, none⟩)] ++ cap) W fun e W' => e = .returned (.tuple #[]) ∧ Blk W' p (ncl (f n)) 31 ∧ W.grownBy W' (some p)
set_option maxRecDepth 100000 in
set_option maxHeartbeats 4000000 in
theorem clo_stamp (g : Nat) (ts : Int) (w : World) (hg : Blk w g #[.int .i64 ts] 3) : Clo 34 #[.pointer (some ⟨g, 0, none⟩)] (fun n => ((n.1.1, ts, n.1.2.2), n.2)) w := by
  intro W p n hb hp hk
  obtain ⟨⟨wr_, t, b, v⟩, y⟩ := n
  have c1 := hk.cell 1
  have f1 := hk.frozen 1
  have k0 := (hg.later hb).cell 0
  simp only [ncl, List.getElem?_toArray, List.getElem?_cons_zero, List.getElem?_cons_succ] at c1 k0
  have HS : Hid (Blk (W.setCell ⟨p, 1, none⟩ (.int .i64 ts)) p #[.int .i64 wr_, .int .i64 ts, .bool b, .string v, .int .u64 y] 31) := hk.set (j := 1) (.int .i64 ts)
  clear hk hg hb hp
  show Calls Try.prog 34 #[.pointer (some ⟨p, 0, none⟩), .pointer (some ⟨g, 0, none⟩)] W _
  go_enter Try.func34, Try.ntmps34
  go_wp2
  go_end0
  exact ⟨rfl, HS.out, grown_set W p 1 _⟩
set_option maxRecDepth 100000 in
set_option maxHeartbeats 4000000 in
theorem clo_cut (w : World) : Clo 35 #[] (fun n => (n.1, 0)) w := by
  intro W p n hb hp hk
  obtain ⟨⟨wr_, t, b, v⟩, y⟩ := n
  have c4 := hk.cell 4
  have f4 := hk.frozen 4
  simp only [ncl, List.getElem?_toArray, List.getElem?_cons_zero, List.getElem?_cons_succ] at c4
  have HS : Hid (Blk (W.setCell ⟨p, 4, none⟩ (.int .u64 0)) p #[.int .i64 wr_, .int .i64 t, .bool b, .string v, .int .u64 0] 31) := hk.set (j := 4) (.int .u64 0)
  clear hk hb hp
  show Calls Try.prog 35 #[.pointer (some ⟨p, 0, none⟩)] W _
  go_enter Try.func35, Try.ntmps35
  go_wp2
  go_end0
  exact ⟨rfl, HS.out, grown_set W p 4 _⟩
set_option maxRecDepth 100000 in
set_option maxHeartbeats 4000000 in
theorem clo_change (g : Nat) (w2 t2 : Int) (b2 : Bool) (v2 : ByteArray) (w : World) (hg : Blk w g #[.int .i64 w2, .int .i64 t2, .bool b2, .string v2] 29) : Clo 33 #[.pointer (some ⟨g, 0, none⟩)] (fun n => ((w2, t2, b2, v2), n.2)) w := by
  intro W p n hb hp hk
  obtain ⟨⟨wr_, t, b, v⟩, y⟩ := n
  have k := hg.later hb
  have k0 := k.cell 0
  have k1 := k.cell 1
  have k2 := k.cell 2
  have k3 := k.cell 3
  have c0 := hk.cell 0
  have c1 := hk.cell 1
  have c2 := hk.cell 2
  have c3 := hk.cell 3
  have f := hk.frozen
  have hlt := hk.lt
  simp only [ncl, List.getElem?_toArray, List.getElem?_cons_zero, List.getElem?_cons_succ] at k0 k1 k2 k3 c0 c1 c2 c3
  have h0 : Blk _ p #[.int .i64 w2, .int .i64 t, .bool b, .string v, .int .u64 y] 31 := hk.set (j := 0) (.int .i64 w2)
  have h1 : Blk _ p #[.int .i64 w2, .int .i64 t2, .bool b, .string v, .int .u64 y] 31 := h0.set (j := 1) (.int .i64 t2)
  have h2 : Blk _ p #[.int .i64 w2, .int .i64 t2, .bool b2, .string v, .int .u64 y] 31 := h1.set (j := 2) (.bool b2)
  have h3 : Blk _ p #[.int .i64 w2, .int .i64 t2, .bool b2, .string v2, .int .u64 y] 31 := h2.set (j := 3) (.string v2)
  have HS := Lib.hid h3
  have HGR : Hid (W.grownBy ((((W.setCell ⟨p, 0, none⟩ (.int .i64 w2)).setCell ⟨p, 1, none⟩ (.int .i64 t2)).setCell ⟨p, 2, none⟩ (.bool b2)).setCell ⟨p, 3, none⟩ (.string v2)) (some p)) := grown_trans (grown_set W p 0 _) (grown_trans (grown_set _ p 1 _) (grown_trans (grown_set _ p 2 _) (grown_set _ p 3 _)))
  clear hk hb hp h0 h1 h2 h3 hg k
  show Calls Try.prog 33 #[.pointer (some ⟨p, 0, none⟩), .pointer (some ⟨g, 0, none⟩)] W _
  go_enter Try.func33, Try.ntmps33
  go_wp2
  go_end0
  exact ⟨rfl, HS.out, HGR.out⟩
set_option maxRecDepth 100000 in
set_option maxHeartbeats 8000000 in
theorem change_no (B q : Nat) (cf : Conf) (a m : Nat) (st : AS) (S : Nat → Prop) (nd : Int → Nd) (U : List Int) (K : Nat) (w : World) (h : CR w B q cf a m st S) (hi : CI m st nd U K) (x : Int) (hx : hR x) (hn : isA st x = false) (fv : Value) : Calls Try.prog 32 #[.pointer (some ⟨q, 0, none⟩), .int .u64 x, fv] w fun e w' => e = .returned (.int .i64 5) ∧ Below w.heap.size w w' := by
  have HRD := Lib.hid (chread_any B q cf a m st S nd U K w h hi x hx)
  rw [hn] at HRD
  simp only [Bool.false_eq_true, if_false] at HRD
  unfold ndv nd0 at HRD
  clear h hi hx hn
  go_enter Try.func32, Try.ntmps32
  go_wp2_with fail
  refine HRD.out.mono ?_
  rintro e w1 ⟨rfl, hb⟩
  have HB1 := Lib.hid (hb.alloc hb.size (.cells #[.int .i64 0, .int .i64 0, .bool false, .string { data := #[] }, .int .u64 0] 31))
  clear hb HRD
  go_wp2
  go_ret
  exact ⟨rfl, HB1.out⟩
set_option maxRecDepth 100000 in
set_option maxHeartbeats 8000000 in
theorem change_yes (B q : Nat) (cf : Conf) (a m : Nat) (st : AS) (S : Nat → Prop) (nd : Int → Nd) (U : List Int) (K : Nat) (w : World) (h : CR w B q cf a m st S) (hi : CI m st nd U K) (x : Int) (hx : hR x) (hn : isA st x = true) (F : FuncId) (cap : Array Value) (f : Nd → Nd) (hF : ∀ (A : Array Value) (W : World), (callFunc F A).run Try.prog W = .ok (.enter F A) W) (hc : Clo F cap f w) (hv : VN m (f (nd x))) : Calls Try.prog 32 #[.pointer (some ⟨q, 0, none⟩), .int .u64 x, .func (.func F) #[] cap] w (CEnd B q cf a m (wrA (27 + m) x (encT (f (nd x))) st) S (.int .i64 0) w) := by
  have HRD := Lib.hid (chread_any B q cf a m st S nd U K w h hi x hx)
  rw [hn] at HRD
  simp only [if_true] at HRD
  unfold ndv at HRD
  have HR0 := Lib.hid h
  have HCL := Lib.hid hc
  have hm := h.m256
  have HX := Lib.hid hx
  generalize nd x = n0 at *
  have hsz : (encT (f n0)).size ≤ 27 + m := by rw [encT_size]; have := hv.2.2.1; omega
  have hwe : wrAE (27 + m) x (encT (f n0)) st = 0 := by unfold wrAE; rw [if_pos hn, if_pos hsz]
  have HCX : Hid (∀ W p, Below w.heap.size w W → w.heap.size ≤ p → Blk W p (ncl n0) 31 → Calls Try.prog F (#[.pointer (some ⟨p, 0, none⟩)] ++ cap) W fun e W' => e = .returned (.tuple #[]) ∧ Blk W' p (ncl (f n0)) 31 ∧ W.grownBy W' (some p)) := fun W p h1 h2 h3 => hc W p n0 h1 h2 h3
  generalize f n0 = n at *
  obtain ⟨⟨wr_, t, b, v⟩, y⟩ := n
  obtain ⟨⟨wr0, t0, b0, v0⟩, y0⟩ := n0
  simp only [ncl] at HRD HCX
  have HEN : Hid (∀ W, Calls Try.prog 29 #[.agg #[.int .i64 wr_, .int .i64 t, .bool b, .string v, .int .u64 y]] W fun e w' => e = .returned (.string (encT ((wr_, t, b, v), y))) ∧ Below W.heap.size W w') := fun W => by
    have k1 := hv.1
    have k2 := hv.2.1
    have k3 := hv.2.2.1
    have k4 := hv.2.2.2.2
    simp only at k1 k2 k3 k4
    exact encode_any wr_ t b v y W (by omega) (by omega) k4 (by omega)
  have HWA : Hid (∀ W S', AR W B a (27 + m) st S' → Calls Try.prog 28 #[.pointer (some ⟨a, 0, none⟩), .int .u64 x, .string (encT ((wr_, t, b, v), y))] W (AEnd B a (27 + m) (wrA (27 + m) x (encT ((wr_, t, b, v), y)) st) S' (.int .i64 0) W)) := fun W S' ha => by
    have := arwrite_any B a (27 + m) st S' W ha x hx.1 hx.2 (encT ((wr_, t, b, v), y)) (by omega)
    rw [hwe] at this
    exact this
  generalize encT ((wr_, t, b, v), y) = E at *
  generalize wrA (27 + m) x E st = st2 at *
  clear h hi hx hn hc hv hsz hwe HX HCL
  go_enter Try.func32, Try.ntmps32
  go_wp2_with fail
  refine HRD.out.mono ?_
  rintro e w1 ⟨rfl, hb⟩
  have hb2 := hb.alloc hb.size (.cells #[.int .i64 wr0, .int .i64 t0, .bool b0, .string v0, .int .u64 y0] 31)
  have HB2 := Lib.hid hb2
  have HK2 : Hid (Blk (w1.alloc (.cells #[.int .i64 wr0, .int .i64 t0, .bool b0, .string v0, .int .u64 y0] 31)) w1.heap.size #[.int .i64 wr0, .int .i64 t0, .bool b0, .string v0, .int .u64 y0] 31) := Blk.new _ _ _
  have HR2 := Lib.hid (HR0.out.later hb2)
  have HWP : Hid (w.heap.size ≤ w1.heap.size) := hb.size
  clear hb hb2 HRD HR0
  go_wp2_with fail
  refine (HCX.out _ w1.heap.size HB2.out HWP.out HK2.out).mono ?_
  rintro e w3 ⟨rfl, hk, hg⟩
  have HK3 := Lib.hid hk
  have HB3 : Hid (Below w.heap.size w w3) := HB2.out.grown hg HB2.out.size (fun j e => by injection e with e; rw [← e]; exact HWP.out)
  have HR3 : Hid (CR w3 B q cf a m st S) := HR2.out.fr (R := fun k => k = w1.heap.size) ⟨hg.os, hg.tape, hg.output, hg.size, fun k hk hn => hg.block k hk (fun e => hn (by injection e))⟩ (fun k hk e => by subst e; exact HR2.out.ar.not HK2.out (by decide) hk) (fun e => by
    have := blk_t HR2.out.blk (e ▸ HK2.out)
    exact absurd this (by decide))
  generalize w1.heap.size = p at *
  clear hk hg HK2 HB2 HR2 HCX
  go_upto_region 5 with (fail)
  have HGL : Hid (∀ W st' S', CR W B q cf a m st' S' → Blk W p #[.int .i64 wr_, .int .i64 t, .bool b, .string v, .int .u64 y] 31 → SCh q p a wr_ t b v y W) := fun W st' S' h k => ⟨h.c8, k.cell 0, k.cell 1, k.cell 2, k.cell 3, k.cell 4⟩
  refine wp_region_noPanic ?_
  have hbd : Below w3.heap.size w3 w3.drew := Below.drew (Below.refl _ _)
  have HR4 := Lib.hid (HR3.out.later hbd)
  have HK4 := Lib.hid (HK3.out.later hbd)
  have HB4 := Lib.hid (stepB HB3.out hbd)
  clear hbd HR3 HK3 HB3
  refine wp_region_held_drew (S := SCh q p a wr_ t b v y) (by kernel_rfl) (HGL.out _ _ _ HR4.out HK4.out) (fun hHeld => ?_)
  generalize w3.drew = w4 at *
  refine wpAnyH_take (i := 0) (oi := { dst := some 19, op := Op.move (Operand.tmp 0), type := 22, pos := "chain.go:114", after := #[], guard := none }) (v := ?_) rfl (by kernel_rfl) (by kernel_rfl) (by kernel_rfl) (fun _ _ _ h => h) (Or.inl ⟨by rfl, ?_⟩) (by assumption) ?_
  rotate_left
  · intro W hSw
    obtain ⟨k8, j0, j1, j2, j3, j4⟩ := hSw
    go_simp
    try with_reducible rfl
  simp only [Act.put, List.setIfInBounds_toArray, List.set_cons_zero, List.set_cons_succ]
  refine wpAnyH_take (i := 1) (oi := { dst := some 20, op := Op.nilCheck (Operand.tmp 19), type := 0, pos := "chain.go:114", after := #[{ on := 0, ground := Ground.data }], guard := none }) (v := ?_) rfl (by kernel_rfl) (by kernel_rfl) (by kernel_rfl) (fun _ _ _ h => h) (Or.inl ⟨by rfl, ?_⟩) (by assumption) ?_
  rotate_left
  · intro W hSw
    obtain ⟨k8, j0, j1, j2, j3, j4⟩ := hSw
    go_simp
    try with_reducible rfl
  simp only [Act.put, List.setIfInBounds_toArray, List.set_cons_zero, List.set_cons_succ]
  refine wpAnyH_take (i := 2) (oi := { dst := some 21, op := Op.fieldAddr 68 (Operand.tmp 20) 1, type := 0, pos := "chain.go:114", after := #[{ on := 1, ground := Ground.data }], guard := none }) (v := ?_) rfl (by kernel_rfl) (by kernel_rfl) (by kernel_rfl) (fun _ _ _ h => h) (Or.inl ⟨by rfl, ?_⟩) (by assumption) ?_
  rotate_left
  · intro W hSw
    obtain ⟨k8, j0, j1, j2, j3, j4⟩ := hSw
    go_simp
    try with_reducible rfl
  simp only [Act.put, List.setIfInBounds_toArray, List.set_cons_zero, List.set_cons_succ]
  refine wpAnyH_take (i := 3) (oi := { dst := some 22, op := Op.load 66 (Operand.tmp 21), type := 66, pos := "chain.go:114", after := #[{ on := 2, ground := Ground.data }], guard := none }) (v := ?_) rfl (by kernel_rfl) (by kernel_rfl) (by kernel_rfl) (fun _ _ _ h => h) (Or.inl ⟨by rfl, ?_⟩) (by assumption) ?_
  rotate_left
  · intro W hSw
    obtain ⟨k8, j0, j1, j2, j3, j4⟩ := hSw
    go_simp
    try with_reducible rfl
  simp only [Act.put, List.setIfInBounds_toArray, List.set_cons_zero, List.set_cons_succ]
  refine wpAnyH_take (i := 4) (oi := { dst := some 23, op := Op.move (Operand.tmp 1), type := 24, pos := "chain.go:114", after := #[], guard := none }) (v := ?_) rfl (by kernel_rfl) (by kernel_rfl) (by kernel_rfl) (fun _ _ _ h => h) (Or.inl ⟨by rfl, ?_⟩) (by assumption) ?_
  rotate_left
  · intro W hSw
    obtain ⟨k8, j0, j1, j2, j3, j4⟩ := hSw
    go_simp
    try with_reducible rfl
  simp only [Act.put, List.setIfInBounds_toArray, List.set_cons_zero, List.set_cons_succ]
  refine wpAnyH_take (i := 5) (oi := { dst := some 24, op := Op.load 31 (Operand.tmp 7), type := 31, pos := "chain.go:114", after := #[], guard := none }) (v := ?_) rfl (by kernel_rfl) (by kernel_rfl) (by kernel_rfl) (fun _ _ _ h => h) (Or.inl ⟨by rfl, ?_⟩) (by assumption) ?_
  rotate_left
  · intro W hSw
    obtain ⟨k8, j0, j1, j2, j3, j4⟩ := hSw
    go_simp
    try with_reducible rfl
  simp only [Act.put, List.setIfInBounds_toArray, List.set_cons_zero, List.set_cons_succ]
  refine wpAnyH_ready (rs := [6]) (by kernel_rfl) (by simp) (AllReadyH.cons (o := { dst := some 25, op := Op.call { callee := Callee.value (Operand.func 29), args := #[Operand.tmp 24], argTypes := #[31] }, type := 9, pos := "chain.go:114", after := #[{ on := 5, ground := Ground.data }], guard := none }) rfl (fun K hK => ?_) AllReadyH.nil)
  refine step_callw (by rfl) 29 #[.agg #[.int .i64 wr_, .int .i64 t, .bool b, .string v, .int .u64 y]] (by go_simp) ?_
  refine (HEN.out _).mono ?_
  rintro z w5 ⟨rfl, hb⟩
  have HR5 := Lib.hid (HR4.out.later hb)
  have HK5 := Lib.hid (HK4.out.later hb)
  have HB5 := Lib.hid (stepB HB4.out hb)
  clear hb HR4 HK4 HB4
  refine ⟨_, rfl, hK.out _ _ (HGL.out _ _ _ HR5.out HK5.out) (fun hHeld2 => ?_)⟩
  clear hK K hHeld
  have hHeld := hHeld2
  clear hHeld2
  try simp only [Act.put, List.setIfInBounds_toArray, List.set_cons_zero, List.set_cons_succ]
  refine wpAnyH_ready (rs := [7]) (by kernel_rfl) (by simp) (AllReadyH.cons (o := { dst := some 26, op := Op.call { callee := Callee.value (Operand.func 28), args := #[Operand.tmp 22, Operand.tmp 23, Operand.tmp 25], argTypes := #[66, 24, 9] }, type := 25, pos := "chain.go:114", after := #[{ on := 3, ground := Ground.data }, { on := 4, ground := Ground.data }, { on := 6, ground := Ground.data }, { on := 6, ground := Ground.chain }], guard := none }) rfl (fun K hK => ?_) AllReadyH.nil)
  refine step_callw (by rfl) 28 #[.pointer (some ⟨a, 0, none⟩), .int .u64 x, .string E] (by go_simp) ?_
  refine (HWA.out w5 S HR5.out.ar).mono ?_
  rintro z w6 ⟨rfl, S2, g1, g2, g3⟩
  have HR6 := Lib.hid (HR5.out.step g1 g3)
  have HK6 := Lib.hid (HR5.out.ar.blk g3 HK5.out (by decide))
  have HE : Hid (∃ S', CR w6 B q cf a m st2 S' ∧ (∀ k, S' k → S k ∨ w.heap.size ≤ k) ∧ FrS w w6 S) := ⟨S2, HR6.out, fun k hk => (g2 k hk).imp id (fun h => Nat.le_trans HB5.out.size h), g3.pre HB5.out⟩
  clear g1 g2 g3
  refine ⟨_, rfl, hK.out _ _ (HGL.out _ _ _ HR6.out HK6.out) (fun hHeld2 => ?_)⟩
  clear hK K hHeld
  have hHeld := hHeld2
  clear hHeld2
  try simp only [Act.put, List.setIfInBounds_toArray, List.set_cons_zero, List.set_cons_succ]
  refine wpAnyH_take (i := 8) (oi := { dst := some 6, op := Op.assign (Operand.tmp 26), type := 25, pos := "chain.go:114", after := #[{ on := 7, ground := Ground.data }, { on := 7, ground := Ground.chain }, { on := 0, ground := Ground.phase }, { on := 1, ground := Ground.phase }, { on := 2, ground := Ground.phase }, { on := 3, ground := Ground.phase }, { on := 4, ground := Ground.phase }, { on := 5, ground := Ground.phase }, { on := 6, ground := Ground.phase }, { on := 7, ground := Ground.phase }], guard := none }) (v := ?_) rfl (by kernel_rfl) (by kernel_rfl) (by kernel_rfl) (fun _ _ _ h => h) (Or.inl ⟨by rfl, ?_⟩) (by assumption) ?_
  rotate_left
  · intro W hSw
    clear hSw
    go_simp
    try with_reducible rfl
  simp only [Act.put, List.setIfInBounds_toArray, List.set_cons_zero, List.set_cons_succ]
  refine wpAnyH_done (by kernel_rfl) (NoPanic.normal ?_) _
  clear hHeld
  go_wp2
  go_ret
  exact ⟨rfl, HE.out⟩
theorem cf33 (A : Array Value) (W : World) : (callFunc 33 A).run Try.prog W = .ok (.enter 33 A) W := by go_simp
theorem cf34 (A : Array Value) (W : World) : (callFunc 34 A).run Try.prog W = .ok (.enter 34 A) W := by go_simp
theorem cf35 (A : Array Value) (W : World) : (callFunc 35 A).run Try.prog W = .ok (.enter 35 A) W := by go_simp
end Go.Proofs.Ytbncpfkoeahhpaa
