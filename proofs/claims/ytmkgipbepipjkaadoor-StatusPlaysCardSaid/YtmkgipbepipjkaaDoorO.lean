/- Where the row lies behind a step: where it lay, or anew. -/
import Derived.Test.YtmkgipbepipjkaaDoorM
import Derived.Deep.AppendLies
namespace Go.Proofs.YtmkgipbepipjkaaDoor
open Go.ChangeShapes Go.WideShapes Go.ChangeAt Go.RowKit
set_option linter.unusedVariables false
set_option linter.unusedSimpArgs false

/-- the row lies where it lay, or anew -/
def Nw (w : World) (v v' : Value) : Prop := ∀ k, v'.ownBlock = some k → v.ownBlock = some k ∨ w.heap.size ≤ k
theorem Nw.rfl (w : World) (v : Value) : Nw w v v := fun k hk => .inl hk
theorem Nw.base {w w0 : World} {v v' : Value} (h : Nw w0 v v') (hs : w.heap.size ≤ w0.heap.size) : Nw w v v' := fun k hk => (h k hk).imp id (fun h => Nat.le_trans hs h)
/-- what lay apart from the row ahead of a step lies apart from it behind -/
theorem Nw.apart {w : World} {v v' u : Value} {B : Nat} {M : List Wr} (h : Nw w v v') (ho : WOwn w B u M) (ha : Apart u v) : Apart u v' := fun k hk e => by
  rcases h k e with h | h
  · exact ha k hk h
  · have := (ho.lt k hk).2; omega
def BegNew (B p : Nat) (v : Value) (L : List Wr) (la : Int) (en : Nat) (w : World) (x : Ending) (w' : World) : Prop := ∃ v', x = .returned (.int .i64 ((L.length : Int) + 1)) ∧ WrAt w' B p v' (L ++ [wz]) la en ∧ Fr w w' p v ∧ Nw w v v'
def DoNew (B p : Nat) (v : Value) (L : List Wr) (la wh i ts : Int) (w : World) (x : Ending) (w' : World) : Prop := x = .returned (.tuple #[.int .i64 (doN L wh), .int .i64 (doE L la wh i ts)]) ∧ ∃ v' en', WrAt w' B p v' (doS L la wh i ts) (doT L la wh i ts) en' ∧ Fr w w' p v ∧ Nw w v v'
theorem do_new_end {B p : Nat} {v v' : Value} {L M : List Wr} {la lb wh i ts n e : Int} {en : Nat} {w w' : World} (h1 : doN L wh = n) (h2 : doE L la wh i ts = e) (h3 : doS L la wh i ts = M) (h4 : doT L la wh i ts = lb) (h : WrAt w' B p v' M lb en) (hf : Fr w w' p v) (hw : Nw w v v') : DoNew B p v L la wh i ts w (.returned (.tuple #[.int .i64 n, .int .i64 e])) w' := by
  unfold DoNew; rw [h1, h2, h3, h4]; exact ⟨rfl, v', en, h, hf, hw⟩
set_option maxRecDepth 100000 in
set_option maxHeartbeats 4000000 in
theorem begin_new (B p : Nat) (v : Value) (L : List Wr) (la : Int) (en : Nat) (w : World) (h : WrAt w B p v L la en) (hn : L.length ≤ 1000000) (hB : B ≤ w.heap.size) : Calls Tryd.prog 9 #[.pointer (some ⟨p, 0, none⟩)] w (BegNew B p v L la en w) := by
  obtain ⟨A, c, rfl, hc, k0, k1, k2, f0, f1, f2⟩ := h.cells
  obtain ⟨i0, hi, hz0, hz1, hz2⟩ := info_parts w49info
  have H := Lib.hid h
  have hb0 : Below w.heap.size w (w.alloc (.cells #[.int .u8 1, .int .i64 0] 49)) := (Below.refl _ _).alloc (Nat.le_refl _) _
  have H1 := Lib.hid (h.later hb0)
  have HB0 := Lib.hid hb0
  have HO := Lib.hid (Blk.new w #[.int .u8 1, .int .i64 0] 49)
  have hsz : B ≤ (w.alloc (.cells #[.int .u8 1, .int .i64 0] 49)).heap.size := by simp; omega
  clear h hb0
  go_enter Tryd.func9, Tryd.ntmps9
  go_wp2_with (at_builtin; refine wpList_append_lies _ rfl (.tmp 9) (.tmp 11) 45 rfl B 49 i0 _ 2 16 Tryd.underlying45 hi hz0 hz1 hz2 rfl (by decide) _ L.length (wrv L) rfl H1.out.own ⟨w.heap.size, 0, none⟩ 1 1 (wrv [wz]) rfl rfl (blk_one HO.out) (wrv_one _) (by decide) (by unfold maxLen; omega) (by omega) hsz _ rfl ?_; intro g2 c2 w2 ho2 hg2 hat2)
  intro hlt2
  have HNW : Hid (Nw w (.slice A L.length c) (.slice (some ⟨g2, 0, none⟩) (L.length + 1) c2)) := fun k hk => by
    cases hk
    rcases hat2 with h | h
    · exact .inl h
    · right; show w.heap.size ≤ g2; have := HB0.out.size; omega
  clear hat2 hlt2
  have ho3 : WOwn w2 B (.slice (some ⟨g2, 0, none⟩) (L.length + 1) c2) (L ++ [wz]) := by unfold WOwn; rw [wrv_app, List.length_append]; exact ho2
  have hF := Lib.hid (beg_fin H.out HB0.out ho3 hg2)
  have hBp : Blk w2 p #[.slice A L.length c, .int .i64 en, .int .i64 la] 47 := H1.out.blk.grown hg2 (fun e => H1.out.own.ne H1.out.blk (by decide) p e.symm rfl)
  have q0 := hBp.cell 0
  have q1 := hBp.frozen 0
  simp only [List.getElem?_toArray, List.getElem?_cons_zero] at q0
  clear ho2 ho3 hg2 hBp k0 k1 k2 f0 f1 f2 H1
  go_wp2
  go_ret
  exact ⟨_, rfl, hF.out.1, hF.out.2, HNW.out⟩
set_option maxRecDepth 100000 in
set_option maxHeartbeats 4000000 in
theorem do_new (B p : Nat) (v : Value) (L : List Wr) (la : Int) (en : Nat) (wh i ts : Int) (w : World) (h : WrAt w B p v L la en) (hT : TabAt w) (hB0 : 0 < B) (hB : B ≤ w.heap.size) (hn : L.length ≤ 1000000) : Calls Tryd.prog 22 #[.agg #[.int .u8 wh, .int .i64 i, .int .i64 ts], .pointer (some ⟨p, 0, none⟩)] w (DoNew B p v L la wh i ts w) := by
  have hb0 : Below w.heap.size w (w.alloc (.cells #[.int .u8 wh, .int .i64 i, .int .i64 ts] 36)) := (Below.refl _ _).alloc (Nat.le_refl _) _
  have H1 := Lib.hid (h.later hb0)
  have HT1 := Lib.hid (hT.later hb0)
  have HF0 : Hid (Fr w (w.alloc (.cells #[.int .u8 wh, .int .i64 i, .int .i64 ts] 36)) p v) := Fr.of_below hb0
  have HX := Lib.hid (Blk.new w #[.int .u8 wh, .int .i64 i, .int .i64 ts] 36)
  have hB1 : B ≤ (w.alloc (.cells #[.int .u8 wh, .int .i64 i, .int .i64 ts] 36)).heap.size := by simp; omega
  have HS0 := Lib.hid hb0.size
  have HLA := Lib.hid h.la0
  have HLB := Lib.hid h.la1
  have hpb : w.heap.size ≠ p := by have := h.plt; omega
  have hvb : v.ownBlock ≠ some w.heap.size := fun e => by have := (h.own.lt _ e).2; omega
  clear h hT hb0
  generalize hW : w.alloc (.cells #[.int .u8 wh, .int .i64 i, .int .i64 ts] 36) = w0 at *
  have cell0 := HX.out.cell 0
  have cell1 := HX.out.cell 1
  have cell2 := HX.out.cell 2
  simp only [List.getElem?_toArray, List.getElem?_cons_zero, List.getElem?_cons_succ] at cell0 cell1 cell2
  by_cases h0 : wh = 0
  · have HR0 : Hid (doN L wh = (L.length : Int) + 1) := if_pos h0
    have HR1 : Hid (doE L la wh i ts = 0) := if_pos h0
    have HR2 : Hid (doS L la wh i ts = L ++ [wz]) := if_pos h0
    have HR3 : Hid (doT L la wh i ts = la) := if_pos h0
    have C := Lib.hid (begin_new B p v L la en w0 H1.out hn hB1)
    subst h0
    go_enter Tryd.func22, Tryd.ntmps22
    go_wp2_with fail
    refine (C.out).mono ?_
    rintro x w' ⟨v', rfl, h2, hf, hnw⟩
    have HNW : Hid (Nw w v v') := hnw.base HS0.out
    clear hnw
    have H2 := Lib.hid h2
    have HF := Lib.hid (HF0.out.trans hf)
    clear h2 hf C cell0 cell1 cell2
    go_wp2
    go_ret2
    exact do_new_end HR0.out HR1.out HR2.out HR3.out H2.out HF.out HNW.out
  by_cases h1 : wh = 1
  · have HR0 : Hid (doN L wh = 0) := by show _ = _; unfold doN; rw [if_neg h0]
    have HR1 : Hid (doE L la wh i ts = turnE L la i 3 ts) := by show _ = _; unfold doE; rw [if_neg h0, if_pos h1]
    have HR2 : Hid (doS L la wh i ts = turnS L la i 3 ts) := by show _ = _; unfold doS; rw [if_neg h0, if_pos h1]
    have HR3 : Hid (doT L la wh i ts = turnT L la i 3 ts) := by show _ = _; unfold doT; rw [if_neg h0, if_pos h1]
    obtain ⟨e, he⟩ : ∃ e, turnE L la i 3 ts = e := ⟨_, rfl⟩
    have HE := Lib.hid he
    have C := Lib.hid (commit_any B p v L la en i ts w0 H1.out HT1.out hB0 hn)
    clear he
    have n0 : (wh == 0) = false := by rw [beq_eq_false_iff_ne]; exact h0
    subst h1
    clear n0
    go_enter Tryd.func22, Tryd.ntmps22
    go_wp2_with fail
    refine (C.out).mono ?_
    rintro x w' ⟨rfl, ⟨en', h2⟩, hf⟩
    rw [HE.out]
    have H2 := Lib.hid h2
    have HF := Lib.hid (HF0.out.trans hf)
    clear h2 hf C cell0 cell1 cell2
    go_wp2
    go_ret2
    exact do_new_end HR0.out (HR1.out.trans HE.out) HR2.out HR3.out H2.out HF.out (Nw.rfl _ _)
  by_cases h2 : wh = 2
  · have HR0 : Hid (doN L wh = 0) := by show _ = _; unfold doN; rw [if_neg h0]
    have HR1 : Hid (doE L la wh i ts = turnE L la i 2 0) := by show _ = _; unfold doE; rw [if_neg h0, if_neg h1, if_pos h2]
    have HR2 : Hid (doS L la wh i ts = turnS L la i 2 0) := by show _ = _; unfold doS; rw [if_neg h0, if_neg h1, if_pos h2]
    have HR3 : Hid (doT L la wh i ts = turnT L la i 2 0) := by show _ = _; unfold doT; rw [if_neg h0, if_neg h1, if_pos h2]
    obtain ⟨e, he⟩ : ∃ e, turnE L la i 2 0 = e := ⟨_, rfl⟩
    have HE := Lib.hid he
    have C := Lib.hid (fall_any B p v L la en i w0 H1.out HT1.out hB0 hn)
    clear he
    have n0 : (wh == 0) = false := by rw [beq_eq_false_iff_ne]; exact h0
    have n1 : (wh == 1) = false := by rw [beq_eq_false_iff_ne]; exact h1
    subst h2
    clear n0 n1
    go_enter Tryd.func22, Tryd.ntmps22
    go_wp2_with fail
    refine (C.out).mono ?_
    rintro x w' ⟨rfl, ⟨en', h2⟩, hf⟩
    rw [HE.out]
    have H2 := Lib.hid h2
    have HF := Lib.hid (HF0.out.trans hf)
    clear h2 hf C cell0 cell1 cell2
    go_wp2
    go_ret2
    exact do_new_end HR0.out (HR1.out.trans HE.out) HR2.out HR3.out H2.out HF.out (Nw.rfl _ _)
  by_cases h3 : wh = 3
  · have HR0 : Hid (doN L wh = 0) := by show _ = _; unfold doN; rw [if_neg h0]
    have HR1 : Hid (doE L la wh i ts = turnE L la i 4 0) := by show _ = _; unfold doE; rw [if_neg h0, if_neg h1, if_neg h2, if_pos h3]
    have HR2 : Hid (doS L la wh i ts = turnS L la i 4 0) := by show _ = _; unfold doS; rw [if_neg h0, if_neg h1, if_neg h2, if_pos h3]
    have HR3 : Hid (doT L la wh i ts = turnT L la i 4 0) := by show _ = _; unfold doT; rw [if_neg h0, if_neg h1, if_neg h2, if_pos h3]
    obtain ⟨e, he⟩ : ∃ e, turnE L la i 4 0 = e := ⟨_, rfl⟩
    have HE := Lib.hid he
    have C := Lib.hid (fallen_any B p v L la en i w0 H1.out HT1.out hB0 hn)
    clear he
    have n0 : (wh == 0) = false := by rw [beq_eq_false_iff_ne]; exact h0
    have n1 : (wh == 1) = false := by rw [beq_eq_false_iff_ne]; exact h1
    have n2 : (wh == 2) = false := by rw [beq_eq_false_iff_ne]; exact h2
    subst h3
    clear n0 n1 n2
    go_enter Tryd.func22, Tryd.ntmps22
    go_wp2_with fail
    refine (C.out).mono ?_
    rintro x w' ⟨rfl, ⟨en', h2⟩, hf⟩
    rw [HE.out]
    have H2 := Lib.hid h2
    have HF := Lib.hid (HF0.out.trans hf)
    clear h2 hf C cell0 cell1 cell2
    go_wp2
    go_ret2
    exact do_new_end HR0.out (HR1.out.trans HE.out) HR2.out HR3.out H2.out HF.out (Nw.rfl _ _)
  · have HR0 : Hid (doN L wh = 0) := by show _ = _; unfold doN; rw [if_neg h0]
    have HR1 : Hid (doE L la wh i ts = turnE L la i 3 (la + 1)) := by show _ = _; unfold doE; rw [if_neg h0, if_neg h1, if_neg h2, if_neg h3]
    have HR2 : Hid (doS L la wh i ts = turnS L la i 3 (la + 1)) := by show _ = _; unfold doS; rw [if_neg h0, if_neg h1, if_neg h2, if_neg h3]
    have HR3 : Hid (doT L la wh i ts = turnT L la i 3 (la + 1)) := by show _ = _; unfold doT; rw [if_neg h0, if_neg h1, if_neg h2, if_neg h3]
    obtain ⟨e, he⟩ : ∃ e, turnE L la i 3 (la + 1) = e := ⟨_, rfl⟩
    have HE := Lib.hid he
    have C := Lib.hid (commit_any B p v L la en i (la + 1) w0.drew (H1.out.later (Aft.drew0 w0)) (HT1.out.later (Aft.drew0 w0)) hB0 hn)
    clear he
    have n0 : (wh == 0) = false := by rw [beq_eq_false_iff_ne]; exact h0
    have n1 : (wh == 1) = false := by rw [beq_eq_false_iff_ne]; exact h1
    have n2 : (wh == 2) = false := by rw [beq_eq_false_iff_ne]; exact h2
    have n3 : (wh == 3) = false := by rw [beq_eq_false_iff_ne]; exact h3
    have CL := Lib.hid (last_any B p v L la en w0.drew (H1.out.later (Aft.drew0 w0)))
    have wl : IntKind.i64.wrap (la + 1) = la + 1 := IntWalk.i64_in _ (by have := HLA.out; have := HLB.out; omega)
    have wl2 : wrap64 (la + 1) = la + 1 := by have := HLA.out; have := HLB.out; unfold wrap64; omega
    have CB : Hid (Blk w0 w.heap.size #[.int .u8 wh, .int .i64 i, .int .i64 ts] 36) := HX
    go_enter Tryd.func22, Tryd.ntmps22
    go_wp2_with fail
    refine wp_region_noPanic ?_
    have S0 : Hid (w0.drew.cell? ⟨w.heap.size, 1, none⟩ = some (.int .i64 i)) := cell_later cell1 (Aft.drew0 w0)
    clear cell0 cell1 cell2
    refine wp_region_held_drew (S := fun W => W.cell? ⟨w.heap.size, 1, none⟩ = some (.int .i64 i)) (by kernel_rfl) S0.out (fun hHeld => ?_)
    refine wpAnyH_take (i := 0) (oi := { dst := some 32, op := Op.move (Operand.tmp 1), type := 22, pos := "law.go:38", after := #[], guard := none }) (v := ?_) rfl (by kernel_rfl) (by kernel_rfl) (by kernel_rfl) (fun _ _ _ h => h) (Or.inl ⟨by rfl, ?_⟩) (by assumption) ?_
    rotate_left
    · intro W hSw
      clear hSw
      go_simp
      try with_reducible rfl
    simp only [Act.put, List.setIfInBounds_toArray, List.set_cons_zero, List.set_cons_succ]
    refine wpAnyH_take (i := 1) (oi := { dst := some 33, op := Op.fieldAddr 36 (Operand.tmp 2) 1, type := 0, pos := "law.go:38", after := #[], guard := none }) (v := ?_) rfl (by kernel_rfl) (by kernel_rfl) (by kernel_rfl) (fun _ _ _ h => h) (Or.inl ⟨by rfl, ?_⟩) (by assumption) ?_
    rotate_left
    · intro W hSw
      clear hSw
      go_simp
      try with_reducible rfl
    simp only [Act.put, List.setIfInBounds_toArray, List.set_cons_zero, List.set_cons_succ]
    refine wpAnyH_take (i := 2) (oi := { dst := some 34, op := Op.load 3 (Operand.tmp 33), type := 3, pos := "law.go:38", after := #[{ on := 1, ground := Ground.data }], guard := none }) (v := ?_) rfl (by kernel_rfl) (by kernel_rfl) (by kernel_rfl) (fun _ _ _ h => h) (Or.inl ⟨by rfl, ?_⟩) (by assumption) ?_
    rotate_left
    · intro W hSw
      have kc := hSw
      go_simp
      try with_reducible rfl
    simp only [Act.put, List.setIfInBounds_toArray, List.set_cons_zero, List.set_cons_succ]
    refine wpAnyH_take (i := 3) (oi := { dst := some 35, op := Op.move (Operand.tmp 1), type := 22, pos := "law.go:38", after := #[], guard := none }) (v := ?_) rfl (by kernel_rfl) (by kernel_rfl) (by kernel_rfl) (fun _ _ _ h => h) (Or.inl ⟨by rfl, ?_⟩) (by assumption) ?_
    rotate_left
    · intro W hSw
      clear hSw
      go_simp
      try with_reducible rfl
    simp only [Act.put, List.setIfInBounds_toArray, List.set_cons_zero, List.set_cons_succ]
    refine wpAnyH_ready (rs := [4]) (by kernel_rfl) (by simp) (AllReadyH.cons (o := { dst := some 36, op := Op.call { callee := Callee.value (Operand.func 17), args := #[Operand.tmp 35], argTypes := #[22] }, type := 3, pos := "law.go:38", after := #[{ on := 3, ground := Ground.data }], guard := none }) rfl (fun K hK => ?_) AllReadyH.nil)
    refine step_callw (by rfl) 17 #[.pointer (some ⟨p, 0, none⟩)] (by go_simp) ?_
    refine (CL.out).mono ?_
    rintro z W' ⟨rfl, rfl⟩
    refine ⟨_, rfl, hK.out _ _ S0.out (fun hHeld2 => ?_)⟩
    clear hK K hHeld CL
    simp only [Act.put, List.setIfInBounds_toArray, List.set_cons_zero, List.set_cons_succ]
    refine wpAnyH_take (i := 5) (oi := { dst := some 37, op := Op.binOp BinOp.add 3 (Operand.tmp 36) (Operand.const (Value.int IntKind.i64 1)) 3, type := 3, pos := "law.go:38", after := #[{ on := 4, ground := Ground.data }], guard := none }) (v := ?_) rfl (by kernel_rfl) (by kernel_rfl) (by kernel_rfl) (fun _ _ _ h => h) (Or.inl ⟨by rfl, ?_⟩) (by assumption) ?_
    rotate_left
    · intro W hSw
      clear hSw
      go_simp
      try with_reducible rfl
    simp only [Act.put, List.setIfInBounds_toArray, List.set_cons_zero, List.set_cons_succ]
    refine wpAnyH_ready (rs := [6]) (by kernel_rfl) (by simp) (AllReadyH.cons (o := { dst := some 38, op := Op.call { callee := Callee.value (Operand.func 10), args := #[Operand.tmp 32, Operand.tmp 34, Operand.tmp 37], argTypes := #[22, 3, 3] }, type := 25, pos := "law.go:38", after := #[{ on := 0, ground := Ground.data }, { on := 2, ground := Ground.data }, { on := 5, ground := Ground.data }, { on := 4, ground := Ground.chain }], guard := none }) rfl (fun K hK => ?_) AllReadyH.nil)
    refine step_callw (by rfl) 10 #[.pointer (some ⟨p, 0, none⟩), .int .i64 i, .int .i64 (la + 1)] (by go_simp) ?_
    refine (C.out).mono ?_
    rintro z W' ⟨rfl, ⟨en', h2⟩, hf⟩
    rw [HE.out]
    have S2 : W'.cell? ⟨w.heap.size, 1, none⟩ = some (.int .i64 i) := by
      rw [← S0.out]
      exact World.cell?_of_block (a := ⟨w.heap.size, 1, none⟩) (hf.block _ (lt_of_cell S0.out) hpb hvb)
    have H2 := Lib.hid h2
    have HF := Lib.hid (HF0.out.trans ((Fr.of_below (Aft.drew0 w0)).trans hf))
    refine ⟨_, rfl, hK.out _ _ S2 (fun hHeld3 => ?_)⟩
    clear hK K hHeld2 C h2 hf S2
    simp only [Act.put, List.setIfInBounds_toArray, List.set_cons_zero, List.set_cons_succ]
    refine wpAnyH_take (i := 7) (oi := { dst := some 4, op := Op.assign (Operand.const (Value.int IntKind.i64 0)), type := 3, pos := "law.go:38", after := #[{ on := 6, ground := Ground.chain }, { on := 0, ground := Ground.textOnly Departure.lateStores }, { on := 1, ground := Ground.textOnly Departure.lateStores }, { on := 2, ground := Ground.textOnly Departure.lateStores }, { on := 3, ground := Ground.textOnly Departure.lateStores }, { on := 4, ground := Ground.textOnly Departure.lateStoresUnsure }, { on := 5, ground := Ground.textOnly Departure.lateStores }, { on := 6, ground := Ground.textOnly Departure.lateStoresUnsure }], guard := none }) (v := ?_) rfl (by kernel_rfl) (by kernel_rfl) (by kernel_rfl) (fun _ _ _ h => h) (Or.inl ⟨by rfl, ?_⟩) (by assumption) ?_
    rotate_left
    · intro W hSw
      clear hSw
      go_simp
      try with_reducible rfl
    simp only [Act.put, List.setIfInBounds_toArray, List.set_cons_zero, List.set_cons_succ]
    refine wpAnyH_take (i := 8) (oi := { dst := some 5, op := Op.assign (Operand.tmp 38), type := 25, pos := "law.go:38", after := #[{ on := 6, ground := Ground.data }, { on := 7, ground := Ground.chain }, { on := 0, ground := Ground.phase }, { on := 1, ground := Ground.phase }, { on := 2, ground := Ground.phase }, { on := 3, ground := Ground.phase }, { on := 4, ground := Ground.phase }, { on := 5, ground := Ground.phase }, { on := 6, ground := Ground.phase }, { on := 7, ground := Ground.phase }], guard := none }) (v := ?_) rfl (by kernel_rfl) (by kernel_rfl) (by kernel_rfl) (fun _ _ _ h => h) (Or.inl ⟨by rfl, ?_⟩) (by assumption) ?_
    rotate_left
    · intro W hSw
      clear hSw
      go_simp
      try with_reducible rfl
    simp only [Act.put, List.setIfInBounds_toArray, List.set_cons_zero, List.set_cons_succ]
    refine wpAnyH_done (by kernel_rfl) (NoPanic.normal ?_) _
    go_wp2
    go_ret2
    exact do_new_end HR0.out (HR1.out.trans HE.out) HR2.out HR3.out H2.out HF.out (Nw.rfl _ _)
end Go.Proofs.YtmkgipbepipjkaaDoor
