/- read, clash. -/
import Derived.Test.YtoinjnocopejjaaMU
import Derived.StillTailTactics
namespace Go.Proofs.Ytoinjnocopejjaa
open Go.ChangeShapes Go.WideShapes Go.ChangeAt Go.RowKit Go.Maps
set_option linter.unusedVariables false
set_option linter.unusedSimpArgs false
theorem vers_later {W W' : World} {A : Option Addr} {n : Nat} {L : List Ver} (h : Vers W.heap.size W A n L) (hb : Below W.heap.size W W') : Vers W'.heap.size W' A n L := (h.below hb).mono hb.size
theorem results_cell_row2 {P : Program} {fn : Func} {p u : Tmp} {ty : TypeId} (h : fn.results = #[.cell p ty, .tmp u]) (tmps : Array Value) (w : World) (g : Nat) (t : TypeId) (cs : Array Value) (fr : Nat × Nat) (d : TypeDesc)
    (hp : tmps.getD p undef = .pointer (some ⟨g, 0, none⟩)) (hg : w.heap[g]? = some (.cells cs t fr))
    (hu : P.underlying ty = some d) (hd : (match d with | .struct _ | .array _ _ => true | _ => false) = true) (hi : (P.info? ty).map (·.size) = some cs.size) {b : Value} (hb : tmps.getD u undef = b) :
    (results fn tmps).run P w = .ok (.tuple #[.agg cs, b]) w := by
  have hp' : tmps[p]?.getD undef = .pointer (some ⟨g, 0, none⟩) := by simpa using hp
  have hb' : tmps[u]?.getD undef = b := by simpa using hb
  simp [results, h, hp', hb', asAddr, run_loadVar_row w g t ty cs fr d hg hu hd hi]
theorem setRow_heap' (W : World) (q : Nat) (c c2 : Array Value) (t : TypeId) (h : W.heap[q]? = some (.cells c t (0, 0))) : (W.setRow q c2).heap[q]? = some (.cells c2 t (0, 0)) := by
  unfold World.setRow
  rw [Array.getElem?_modify, if_pos rfl, h]; rfl
theorem setRow_other' (W : World) (p q : Nat) (c2 : Array Value) (hne : q ≠ p) : (W.setRow p c2).heap[q]? = W.heap[q]? := by
  unfold World.setRow
  rw [Array.getElem?_modify, if_neg (fun e => hne e.symm)]
theorem Blk.setRow {W : World} {q p : Nat} {c c2 : Array Value} {t : TypeId} (h : Blk W q c t) (hne : q ≠ p) : Blk (W.setRow p c2) q c t := (setRow_other' W p q c2 hne).trans h
theorem Blk.setRow_self {W : World} {q : Nat} {c c2 : Array Value} {t : TypeId} (h : Blk W q c t) : Blk (W.setRow q c2) q c2 t := setRow_heap' W q c c2 t h
theorem below_setRow {B q : Nat} {w W : World} (h : Below B w W) (hq : B ≤ q) (c2 : Array Value) : Below B w (W.setRow q c2) :=
  h.trans ⟨rfl, rfl, rfl, by unfold World.setRow; simp, fun k hk => setRow_other' W q k c2 (by omega)⟩
/-- a block of four cells is written anew -/
theorem arr4 {c : Array Value} (h : c.size = 4) : ∃ a0 a1 a2 a3, c = #[a0, a1, a2, a3] := by
  obtain ⟨l⟩ := c
  have h : l.length = 4 := h
  match l, h with
  | [a0, a1, a2, a3], _ => exact ⟨a0, a1, a2, a3, rfl⟩
theorem setB4 {W : World} {q : Nat} {c : Array Value} {t : TypeId} (h : Blk W q c t) (hc : c.size = 4) (v0 v1 v2 v3 : Value) {w : World} {B : Nat} (hb : Below B w W) (hq : B ≤ q) :
    Blk ((((W.setCell ⟨q, 0, none⟩ v0).setCell ⟨q, 1, none⟩ v1).setCell ⟨q, 2, none⟩ v2).setCell ⟨q, 3, none⟩ v3) q #[v0, v1, v2, v3] t ∧ Below B w ((((W.setCell ⟨q, 0, none⟩ v0).setCell ⟨q, 1, none⟩ v1).setCell ⟨q, 2, none⟩ v2).setCell ⟨q, 3, none⟩ v3) := by
  obtain ⟨a0, a1, a2, a3, rfl⟩ := arr4 hc
  exact ⟨((((h.set v0).set v1).set v2).set v3), (((hb.setCell hq _).setCell hq _).setCell hq _).setCell hq _⟩
def RdEnd (v : Ver) (b : Bool) (w : World) (e : Ending) (w' : World) : Prop := e = .returned (.tuple #[v.agg, .bool b]) ∧ Below w.heap.size w w'
theorem snW_at {s : MS} {j : Nat} (hj : 1 ≤ j) {st sn : Int} (h : s.txns[j - 1]? = some (st, sn)) : snW s (j : Int) = sn := by
  unfold snW; rw [if_neg (by omega), show ((j : Int) - 1).toNat = j - 1 from by omega, List.getD_eq_getElem?_getD, h]; rfl
theorem MdAt.snap {W : World} {B p : Nat} {s : MS} {x : MX} (h : MdAt W B p s x) {j N : Nat} (hj : 1 ≤ j) (hN : s.txns.length = N) (hl : j ≤ N) : ∃ g off c, W.cell? ⟨p, 10, none⟩ = some (.slice (some ⟨g, off, none⟩) N c) ∧ W.cell? ⟨g, off + (j - 1) * 2 + 1, none⟩ = some (.int .i64 (snW s (j : Int))) ∧ W.cell? ⟨g, off + (j - 1) * 2, none⟩ = some (.int .u8 (stW s (j : Int))) := by
  obtain ⟨A, c, etv, hc, hr⟩ := h.txr
  have k10 : W.cell? ⟨p, 10, none⟩ = some x.tv := h.c0 10
  rw [etv, hN] at k10
  obtain ⟨g, off, rfl, hg, hcell⟩ := hr.2 (by omega)
  have hvx : s.txns[j - 1]? = some (s.txns[j - 1]'(by omega)) := List.getElem?_eq_getElem _
  refine ⟨g, off, c, k10, ?_, ?_⟩
  · have := hcell (j - 1) _ hvx 1 (by decide)
    rw [this, snW_at hj (st := (s.txns[j - 1]'(by omega)).1) (sn := (s.txns[j - 1]'(by omega)).2) hvx]
    rfl
  · have := hcell (j - 1) _ hvx 0 (by decide)
    rw [Nat.add_zero] at this
    rw [this]
    have e : stW s (j : Int) = (s.txns[j - 1]'(by omega)).1 := by
      unfold stW; rw [if_neg (by omega), show ((j : Int) - 1).toNat = j - 1 from by omega, List.getD_eq_getElem?_getD, hvx]; rfl
    rw [e]; rfl
set_option maxRecDepth 100000 in
set_option maxHeartbeats 16000000 in
theorem read_any (B p : Nat) (s : MS) (S : Nat → Prop) (j : Nat) (key : ByteArray) (w : World) (h : MR w B p s S) (hj : 1 ≤ j) (hl : j ≤ s.txns.length) (hn : s.txns.length ≤ 100000) (hk : key.size ≤ maxLen) : Calls Try.prog 78 #[.pointer (some ⟨p, 0, none⟩), .int .i64 (j : Int), .string key] w (RdEnd (readV s (j : Int) (getR s key)) (readB s (j : Int) (getR s key)) w) := by
  obtain ⟨x, h, _⟩ := h
  have hb1 : Below w.heap.size w (w.alloc (.cells #[.int .i64 0, .int .i64 0, .bool false, .string ⟨#[]⟩] 26)) := (Below.refl _ _).alloc (Nat.le_refl _) _
  have h1 := h.later hb1
  have k12 := h1.c0 12
  have hlk := h1.look0 key hk
  have hg := h1.getR key
  have hat := h1.hdAt key
  generalize hdG x key = hd at *
  obtain ⟨A, n, c, L, ⟨iw, its, itm, iv⟩⟩ := hd
  unfold rowV at hlk
  simp only at hlk
  simp only [mdC, List.getElem?_cons_succ, List.getElem?_cons_zero] at k12
  have hrv : readV s (j : Int) (getR s key) = if iw = (j : Int) then (⟨iw, its, itm, iv⟩ : Ver) else seen L (snW s (j : Int)) := by rw [hg]; rfl
  have hrb : readB s (j : Int) (getR s key) = if iw = (j : Int) then !itm else seenB L (snW s (j : Int)) := by rw [hg]; rfl
  rw [hrv, hrb]
  have hb2 : Below w.heap.size w ((w.alloc (.cells #[.int .i64 0, .int .i64 0, .bool false, .string ⟨#[]⟩] 26)).alloc (.cells #[.slice A n c, .int .i64 iw, .int .i64 its, .bool itm, .string iv] 114)) := hb1.alloc (by simp) _
  have HB := Lib.hid hb2
  have K8 : Hid (Blk ((w.alloc (.cells #[.int .i64 0, .int .i64 0, .bool false, .string ⟨#[]⟩] 26)).alloc (.cells #[.slice A n c, .int .i64 iw, .int .i64 its, .bool itm, .string iv] 114)) (w.heap.size + 1) #[.slice A n c, .int .i64 iw, .int .i64 its, .bool itm, .string iv] 114) := Lib.hid (Blk.new2 _ _ 114 (by simp))
  have K6 : Hid (Blk ((w.alloc (.cells #[.int .i64 0, .int .i64 0, .bool false, .string ⟨#[]⟩] 26)).alloc (.cells #[.slice A n c, .int .i64 iw, .int .i64 its, .bool itm, .string iv] 114)) w.heap.size #[.int .i64 0, .int .i64 0, .bool false, .string ⟨#[]⟩] 26) := Lib.hid ((Blk.new w _ 26).alloc _)
  obtain ⟨N, hN⟩ : ∃ N, s.txns.length = N := ⟨_, rfl⟩
  obtain ⟨g, off, c2, t10w, tsnw, _⟩ := h.snap hj hN (by omega)
  have T10 := Lib.hid t10w
  have TSN := Lib.hid tsnw
  clear t10w tsnw
  have HV : Hid (Vers ((w.alloc (.cells #[.int .i64 0, .int .i64 0, .bool false, .string ⟨#[]⟩] 26)).alloc (.cells #[.slice A n c, .int .i64 iw, .int .i64 its, .bool itm, .string iv] 114)).heap.size ((w.alloc (.cells #[.int .i64 0, .int .i64 0, .bool false, .string ⟨#[]⟩] 26)).alloc (.cells #[.slice A n c, .int .i64 iw, .int .i64 its, .bool itm, .string iv] 114)) A n L) := Lib.hid (vers_of (hat.later ((Below.refl _ _).alloc (Nat.le_refl _) _)))
  have HN8 : Hid (n ≤ 8) := Lib.hid hat.2.2.2
  have wj : wrap64 ((j : Int) - 1) = (j : Int) - 1 := by unfold wrap64; omega
  have wj2 : IntKind.i64.wrap ((j : Int) - 1) = (j : Int) - 1 := IntWalk.i64_in _ (by omega)
  have i3 := idx106 g off N c2 (j - 1) ((j : Int) - 1) (by omega) (by omega)
  clear hrv hrb hg hb1 h1 hb2 hat h hj hl hn hN
  generalize snW s (j : Int) = sn at *
  by_cases e : iw = (j : Int)
  · have e1 : (iw == (j : Int)) = true := by rw [e]; simp
    rw [if_pos e, if_pos e]
    clear e
    go_enter Try.func78, Try.ntmps78
    go_upto_region 3 with (fail)
    clear hlk k12 T10 TSN HV
    generalize ((w.alloc (.cells #[.int .i64 0, .int .i64 0, .bool false, .string ⟨#[]⟩] 26)).alloc (.cells #[.slice A n c, .int .i64 iw, .int .i64 its, .bool itm, .string iv] 114)) = w2 at *
    refine wp_region_noPanic ?_
    obtain ⟨W0, rfl⟩ : ∃ W0 : World, W0 = w2 := ⟨_, rfl⟩
    refine wp_region_held_drew (S := fun W => Below w.heap.size w W ∧ Blk W (w.heap.size + 1) #[.slice A n c, .int .i64 iw, .int .i64 its, .bool itm, .string iv] 114) (by kernel_rfl) (⟨Below.drew HB.out, K8.out⟩) (fun hHeld => ?_)
    refine wpAnyH_take (i := 0) (oi := { dst := some 20, op := Op.fieldAddr 114 (Operand.tmp 8) 1, type := 0, pos := "model.go:128", after := #[], guard := none }) (v := ?_) rfl (by kernel_rfl) (by kernel_rfl) (by kernel_rfl) (fun _ _ _ h => h) (Or.inl ⟨by rfl, ?_⟩) (by assumption) ?_
    rotate_left
    · intro W hSw
      clear hSw
      go_simp
      try with_reducible rfl
    simp only [Act.put, List.setIfInBounds_toArray, List.set_cons_zero, List.set_cons_succ]
    refine wpAnyH_take (i := 1) (oi := { dst := some 21, op := Op.load 26 (Operand.tmp 20), type := 26, pos := "model.go:128", after := #[{ on := 0, ground := Ground.data }], guard := none }) (v := ?_) rfl (by kernel_rfl) (by kernel_rfl) (by kernel_rfl) (fun _ _ _ h => h) (Or.inl ⟨by rfl, ?_⟩) (by assumption) ?_
    rotate_left
    · intro W hSw
      have z1 := hSw.2.cell 1
      have z2 := hSw.2.cell 2
      have z3 := hSw.2.cell 3
      have z4 := hSw.2.cell 4
      simp only [List.getElem?_toArray, List.getElem?_cons_zero, List.getElem?_cons_succ] at z1 z2 z3 z4
      clear hSw
      go_simp
      try with_reducible rfl
    simp only [Act.put, List.setIfInBounds_toArray, List.set_cons_zero, List.set_cons_succ]
    refine wpAnyH_take (i := 2) (oi := { dst := some 22, op := Op.fieldAddr 114 (Operand.tmp 8) 1, type := 0, pos := "model.go:128", after := #[{ on := 6, ground := Ground.gcOnly Departure.lateStores }], guard := none }) (v := ?_) rfl (by kernel_rfl) (by kernel_rfl) (by kernel_rfl) (fun _ _ _ h => h) (Or.inl ⟨by rfl, ?_⟩) (by assumption) ?_
    rotate_left
    · intro W hSw
      clear hSw
      go_simp
      try with_reducible rfl
    simp only [Act.put, List.setIfInBounds_toArray, List.set_cons_zero, List.set_cons_succ]
    refine wpAnyH_take (i := 3) (oi := { dst := some 23, op := Op.fieldAddr 26 (Operand.tmp 22) 2, type := 0, pos := "model.go:128", after := #[{ on := 2, ground := Ground.data }, { on := 6, ground := Ground.gcOnly Departure.lateStores }], guard := none }) (v := ?_) rfl (by kernel_rfl) (by kernel_rfl) (by kernel_rfl) (fun _ _ _ h => h) (Or.inl ⟨by rfl, ?_⟩) (by assumption) ?_
    rotate_left
    · intro W hSw
      clear hSw
      go_simp
      try with_reducible rfl
    simp only [Act.put, List.setIfInBounds_toArray, List.set_cons_zero, List.set_cons_succ]
    refine wpAnyH_take (i := 4) (oi := { dst := some 24, op := Op.load 4 (Operand.tmp 23), type := 4, pos := "model.go:128", after := #[{ on := 3, ground := Ground.data }, { on := 6, ground := Ground.gcOnly Departure.lateStores }], guard := none }) (v := ?_) rfl (by kernel_rfl) (by kernel_rfl) (by kernel_rfl) (fun _ _ _ h => h) (Or.inl ⟨by rfl, ?_⟩) (by assumption) ?_
    rotate_left
    · intro W hSw
      have z1 := hSw.2.cell 1
      have z2 := hSw.2.cell 2
      have z3 := hSw.2.cell 3
      have z4 := hSw.2.cell 4
      simp only [List.getElem?_toArray, List.getElem?_cons_zero, List.getElem?_cons_succ] at z1 z2 z3 z4
      clear hSw
      go_simp
      try with_reducible rfl
    simp only [Act.put, List.setIfInBounds_toArray, List.set_cons_zero, List.set_cons_succ]
    refine wpAnyH_take (i := 5) (oi := { dst := some 25, op := Op.unOp UnOp.not 4 (Operand.tmp 24), type := 4, pos := "model.go:128", after := #[{ on := 4, ground := Ground.data }, { on := 6, ground := Ground.gcOnly Departure.lateStores }], guard := none }) (v := ?_) rfl (by kernel_rfl) (by kernel_rfl) (by kernel_rfl) (fun _ _ _ h => h) (Or.inl ⟨by rfl, ?_⟩) (by assumption) ?_
    rotate_left
    · intro W hSw
      clear hSw
      go_simp
      try with_reducible rfl
    simp only [Act.put, List.setIfInBounds_toArray, List.set_cons_zero, List.set_cons_succ]
    refine wpAnyH_ready (rs := [6]) (by kernel_rfl) (by simp) (AllReadyH.cons (o := { dst := none, op := Op.store 26 (Operand.tmp 6) (Operand.tmp 21), type := 0, pos := "model.go:128", after := #[{ on := 1, ground := Ground.data }, { on := 0, ground := Ground.phase }, { on := 1, ground := Ground.phase }, { on := 2, ground := Ground.textOnly Departure.lateStores }, { on := 3, ground := Ground.textOnly Departure.lateStores }, { on := 4, ground := Ground.textOnly Departure.lateStores }, { on := 5, ground := Ground.textOnly Departure.lateStores }], guard := none }) rfl (fun K hK => ?_) AllReadyH.nil)
    refine wp_store_row 26 (.tmp 6) (.tmp 21) rfl w.heap.size #[.int .i64 iw, .int .i64 its, .bool itm, .string iv] rfl rfl 26 #[.int .i64 0, .int .i64 0, .bool false, .string ⟨#[]⟩] K6.out (by kernel_rfl) rfl (by first | rfl | (simp [Value.oneCell']; done)) ?_
    refine hK.out _ _ (⟨below_setRow (Below.drew HB.out) (Nat.le_refl _) _, Blk.setRow K8.out (by omega)⟩) (fun hHeld => ?_)
    clear hK K
    refine wpAnyH_take (i := 7) (oi := { dst := some 7, op := Op.assign (Operand.tmp 25), type := 4, pos := "model.go:128", after := #[{ on := 5, ground := Ground.data }, { on := 6, ground := Ground.chain }, { on := 0, ground := Ground.phase }, { on := 1, ground := Ground.phase }, { on := 2, ground := Ground.phase }, { on := 3, ground := Ground.phase }, { on := 4, ground := Ground.phase }, { on := 5, ground := Ground.phase }, { on := 6, ground := Ground.phase }], guard := none }) (v := ?_) rfl (by kernel_rfl) (by kernel_rfl) (by kernel_rfl) (fun _ _ _ h => h) (Or.inl ⟨by rfl, ?_⟩) (by assumption) ?_
    rotate_left
    · intro W hSw
      clear hSw
      go_simp
      try with_reducible rfl
    simp only [Act.put, List.setIfInBounds_toArray, List.set_cons_zero, List.set_cons_succ]
    refine wpAnyH_done (by kernel_rfl) (NoPanic.normal ?_) _
    clear hHeld
    have HS2 := Lib.hid (below_setRow (Below.drew HB.out) (Nat.le_refl _) #[.int .i64 iw, .int .i64 its, .bool itm, .string iv])
    have HS1 : Hid (Blk ((World.drew W0).setRow w.heap.size #[.int .i64 iw, .int .i64 its, .bool itm, .string iv]) w.heap.size #[.int .i64 iw, .int .i64 its, .bool itm, .string iv] 26) := Lib.hid (Blk.setRow_self K6.out)
    go_wp2
    refine bodyPost_ret (results_cell_row2 rfl _ _ w.heap.size 26 _ (0, 0) _ rfl HS1.out Try.underlying26 rfl (by kernel_rfl) rfl) rfl ?_
    exact ⟨rfl, HS2.out⟩
  · have e1 : (iw == (j : Int)) = false := by rw [beq_eq_false_iff_ne]; exact e
    rw [if_neg e, if_neg e]
    clear e
    have HC0 : Hid (∀ W : World, Vers W.heap.size W A n L → Calls Try.prog 100 #[.slice A n c, .int .i64 sn] W fun e w' => e = .returned (.tuple #[(seen L sn).agg, .bool (seenB L sn)]) ∧ Below W.heap.size W w') := Lib.hid (fun W hV => Seen_any A n c sn L W (by have := HN8.out; omega) hV)
    generalize seenB L sn = bb at *
    generalize seen L sn = v at *
    obtain ⟨vw, vts, vtm, vv⟩ := v
    rw [Ver.agg_eq] at HC0
    unfold RdEnd
    rw [Ver.agg_eq]
    simp only at HC0 ⊢
    go_enter Try.func78, Try.ntmps78
    go_upto_region 4 with (fail)
    clear hlk k12
    generalize ((w.alloc (.cells #[.int .i64 0, .int .i64 0, .bool false, .string ⟨#[]⟩] 26)).alloc (.cells #[.slice A n c, .int .i64 iw, .int .i64 its, .bool itm, .string iv] 114)) = w2 at *
    refine wp_region_noPanic ?_
    obtain ⟨W0, rfl⟩ : ∃ W0 : World, W0 = w2 := ⟨_, rfl⟩
    refine wp_region_held_drew (S := fun W => Below w.heap.size w W ∧ Blk W (w.heap.size + 1) #[.slice A n c, .int .i64 iw, .int .i64 its, .bool itm, .string iv] 114) (by kernel_rfl) (⟨Below.drew HB.out, K8.out⟩) (fun hHeld => ?_)
    refine wpAnyH_take (i := 0) (oi := { dst := some 26, op := Op.fieldAddr 114 (Operand.tmp 8) 0, type := 0, pos := "model.go:130", after := #[], guard := none }) (v := ?_) rfl (by kernel_rfl) (by kernel_rfl) (by kernel_rfl) (fun _ _ _ h => h) (Or.inl ⟨by rfl, ?_⟩) (by assumption) ?_
    rotate_left
    · intro W hSw
      clear hSw
      go_simp
      try with_reducible rfl
    simp only [Act.put, List.setIfInBounds_toArray, List.set_cons_zero, List.set_cons_succ]
    refine wpAnyH_take (i := 1) (oi := { dst := some 27, op := Op.load 38 (Operand.tmp 26), type := 38, pos := "model.go:130", after := #[{ on := 0, ground := Ground.data }], guard := none }) (v := ?_) rfl (by kernel_rfl) (by kernel_rfl) (by kernel_rfl) (fun _ _ _ h => h) (Or.inl ⟨by rfl, ?_⟩) (by assumption) ?_
    rotate_left
    · intro W hSw
      have z0 := hSw.2.cell 0
      simp only [List.getElem?_toArray, List.getElem?_cons_zero, List.getElem?_cons_succ] at z0
      clear hSw
      go_simp
      try with_reducible rfl
    simp only [Act.put, List.setIfInBounds_toArray, List.set_cons_zero, List.set_cons_succ]
    refine wpAnyH_take (i := 2) (oi := { dst := some 28, op := Op.move (Operand.tmp 0), type := 22, pos := "model.go:130", after := #[], guard := none }) (v := ?_) rfl (by kernel_rfl) (by kernel_rfl) (by kernel_rfl) (fun _ _ _ h => h) (Or.inl ⟨by rfl, ?_⟩) (by assumption) ?_
    rotate_left
    · intro W hSw
      clear hSw
      go_simp
      try with_reducible rfl
    simp only [Act.put, List.setIfInBounds_toArray, List.set_cons_zero, List.set_cons_succ]
    refine wpAnyH_take (i := 3) (oi := { dst := some 29, op := Op.nilCheck (Operand.tmp 28), type := 0, pos := "model.go:130", after := #[{ on := 2, ground := Ground.data }], guard := none }) (v := ?_) rfl (by kernel_rfl) (by kernel_rfl) (by kernel_rfl) (fun _ _ _ h => h) (Or.inl ⟨by rfl, ?_⟩) (by assumption) ?_
    rotate_left
    · intro W hSw
      clear hSw
      go_simp
      try with_reducible rfl
    simp only [Act.put, List.setIfInBounds_toArray, List.set_cons_zero, List.set_cons_succ]
    refine wpAnyH_take (i := 4) (oi := { dst := some 30, op := Op.fieldAddr 110 (Operand.tmp 29) 3, type := 0, pos := "model.go:130", after := #[{ on := 3, ground := Ground.data }], guard := none }) (v := ?_) rfl (by kernel_rfl) (by kernel_rfl) (by kernel_rfl) (fun _ _ _ h => h) (Or.inl ⟨by rfl, ?_⟩) (by assumption) ?_
    rotate_left
    · intro W hSw
      clear hSw
      go_simp
      try with_reducible rfl
    simp only [Act.put, List.setIfInBounds_toArray, List.set_cons_zero, List.set_cons_succ]
    refine wpAnyH_take (i := 5) (oi := { dst := some 31, op := Op.load 106 (Operand.tmp 30), type := 106, pos := "model.go:130", after := #[{ on := 4, ground := Ground.data }], guard := none }) (v := ?_) rfl (by kernel_rfl) (by kernel_rfl) (by kernel_rfl) (fun _ _ _ h => h) (Or.inl ⟨by rfl, ?_⟩) (by assumption) ?_
    rotate_left
    · intro W hSw
      have q := (hSw.1.cell (p := ⟨p, 10, none⟩) (lt_of_cell T10.out)).trans T10.out
      clear hSw
      go_simp
      try with_reducible rfl
    simp only [Act.put, List.setIfInBounds_toArray, List.set_cons_zero, List.set_cons_succ]
    refine wpAnyH_take (i := 6) (oi := { dst := some 32, op := Op.move (Operand.tmp 1), type := 3, pos := "model.go:130", after := #[], guard := none }) (v := ?_) rfl (by kernel_rfl) (by kernel_rfl) (by kernel_rfl) (fun _ _ _ h => h) (Or.inl ⟨by rfl, ?_⟩) (by assumption) ?_
    rotate_left
    · intro W hSw
      clear hSw
      go_simp
      try with_reducible rfl
    simp only [Act.put, List.setIfInBounds_toArray, List.set_cons_zero, List.set_cons_succ]
    refine wpAnyH_take (i := 7) (oi := { dst := some 33, op := Op.binOp BinOp.sub 3 (Operand.tmp 32) (Operand.const (Value.int IntKind.i64 1)) 3, type := 3, pos := "model.go:130", after := #[{ on := 6, ground := Ground.data }], guard := none }) (v := ?_) rfl (by kernel_rfl) (by kernel_rfl) (by kernel_rfl) (fun _ _ _ h => h) (Or.inl ⟨by rfl, ?_⟩) (by assumption) ?_
    rotate_left
    · intro W hSw
      clear hSw
      go_simp
      try with_reducible rfl
    simp only [Act.put, List.setIfInBounds_toArray, List.set_cons_zero, List.set_cons_succ]
    refine wpAnyH_take (i := 8) (oi := { dst := some 34, op := Op.indexAddr 106 (Operand.tmp 31) (Operand.tmp 33), type := 0, pos := "model.go:130", after := #[{ on := 5, ground := Ground.data }, { on := 7, ground := Ground.data }], guard := none }) (v := ?_) rfl (by kernel_rfl) (by kernel_rfl) (by kernel_rfl) (fun _ _ _ h => h) (Or.inl ⟨by rfl, ?_⟩) (by assumption) ?_
    rotate_left
    · intro W hSw
      clear hSw
      go_simp
      try with_reducible rfl
    simp only [Act.put, List.setIfInBounds_toArray, List.set_cons_zero, List.set_cons_succ]
    refine wpAnyH_take (i := 9) (oi := { dst := some 35, op := Op.fieldAddr 112 (Operand.tmp 34) 1, type := 0, pos := "model.go:130", after := #[{ on := 8, ground := Ground.data }], guard := none }) (v := ?_) rfl (by kernel_rfl) (by kernel_rfl) (by kernel_rfl) (fun _ _ _ h => h) (Or.inl ⟨by rfl, ?_⟩) (by assumption) ?_
    rotate_left
    · intro W hSw
      clear hSw
      go_simp
      try with_reducible rfl
    simp only [Act.put, List.setIfInBounds_toArray, List.set_cons_zero, List.set_cons_succ]
    refine wpAnyH_take (i := 10) (oi := { dst := some 36, op := Op.load 3 (Operand.tmp 35), type := 3, pos := "model.go:130", after := #[{ on := 9, ground := Ground.data }], guard := none }) (v := ?_) rfl (by kernel_rfl) (by kernel_rfl) (by kernel_rfl) (fun _ _ _ h => h) (Or.inl ⟨by rfl, ?_⟩) (by assumption) ?_
    rotate_left
    · intro W hSw
      have q := (hSw.1.cell (p := ⟨g, off + (j - 1) * 2 + 1, none⟩) (lt_of_cell TSN.out)).trans TSN.out
      clear hSw
      go_simp
      try with_reducible rfl
    simp only [Act.put, List.setIfInBounds_toArray, List.set_cons_zero, List.set_cons_succ]
    refine wpAnyH_ready (rs := [11]) (by kernel_rfl) (by simp) (AllReadyH.cons (o := { dst := some 37, op := Op.call { callee := Callee.value (Operand.func 100), args := #[Operand.tmp 27, Operand.tmp 36], argTypes := #[38, 3] }, type := 27, pos := "model.go:130", after := #[{ on := 1, ground := Ground.data }, { on := 10, ground := Ground.data }], guard := none }) rfl (fun K hK => ?_) AllReadyH.nil)
    have HCL := Lib.hid (HC0.out (World.drew W0) (vers_later HV.out (Below.drew (Below.refl _ _))))
    go_simp
    refine HCL.out.mono ?_
    rintro e w4 ⟨rfl, hb⟩
    have HB4 := Lib.hid (stepB (Below.drew HB.out) hb)
    have K84 := Lib.hid (Blk.later (show Blk (World.drew W0) (w.heap.size + 1) #[.slice A n c, .int .i64 iw, .int .i64 its, .bool itm, .string iv] 114 from K8.out) hb)
    have K64 := Lib.hid (Blk.later (show Blk (World.drew W0) w.heap.size #[.int .i64 0, .int .i64 0, .bool false, .string ⟨#[]⟩] 26 from K6.out) hb)
    clear hb HCL hHeld
    refine hK.out _ _ (⟨HB4.out, K84.out⟩) (fun hHeld => ?_)
    clear hK K
    refine wpAnyH_take (i := 12) (oi := { dst := some 38, op := Op.extract (Operand.tmp 37) 0, type := 26, pos := "model.go:130", after := #[{ on := 11, ground := Ground.data }], guard := none }) (v := ?_) rfl (by kernel_rfl) (by kernel_rfl) (by kernel_rfl) (fun _ _ _ h => h) (Or.inl ⟨by rfl, ?_⟩) (by assumption) ?_
    rotate_left
    · intro W hSw
      clear hSw
      go_simp
      try with_reducible rfl
    simp only [Act.put, List.setIfInBounds_toArray, List.set_cons_zero, List.set_cons_succ]
    refine wpAnyH_take (i := 13) (oi := { dst := some 39, op := Op.extract (Operand.tmp 37) 1, type := 4, pos := "model.go:130", after := #[{ on := 11, ground := Ground.data }], guard := none }) (v := ?_) rfl (by kernel_rfl) (by kernel_rfl) (by kernel_rfl) (fun _ _ _ h => h) (Or.inl ⟨by rfl, ?_⟩) (by assumption) ?_
    rotate_left
    · intro W hSw
      clear hSw
      go_simp
      try with_reducible rfl
    simp only [Act.put, List.setIfInBounds_toArray, List.set_cons_zero, List.set_cons_succ]
    refine wpAnyH_ready (rs := [14]) (by kernel_rfl) (by simp) (AllReadyH.cons (o := { dst := none, op := Op.store 26 (Operand.tmp 6) (Operand.tmp 38), type := 0, pos := "model.go:130", after := #[{ on := 12, ground := Ground.data }, { on := 11, ground := Ground.chain }, { on := 0, ground := Ground.phase }, { on := 1, ground := Ground.phase }, { on := 2, ground := Ground.phase }, { on := 3, ground := Ground.phase }, { on := 4, ground := Ground.phase }, { on := 5, ground := Ground.phase }, { on := 6, ground := Ground.phase }, { on := 7, ground := Ground.phase }, { on := 8, ground := Ground.phase }, { on := 9, ground := Ground.phase }, { on := 10, ground := Ground.phase }, { on := 11, ground := Ground.phase }, { on := 12, ground := Ground.phase }, { on := 13, ground := Ground.phase }], guard := none }) rfl (fun K hK => ?_) AllReadyH.nil)
    refine wp_store_row 26 (.tmp 6) (.tmp 38) rfl w.heap.size #[.int .i64 vw, .int .i64 vts, .bool vtm, .string vv] rfl rfl 26 #[.int .i64 0, .int .i64 0, .bool false, .string ⟨#[]⟩] K64.out (by kernel_rfl) rfl (by first | rfl | (simp [Value.oneCell']; done)) ?_
    refine hK.out _ _ (⟨below_setRow HB4.out (Nat.le_refl _) _, Blk.setRow K84.out (by omega)⟩) (fun hHeld => ?_)
    clear hK K
    refine wpAnyH_take (i := 15) (oi := { dst := some 7, op := Op.assign (Operand.tmp 39), type := 4, pos := "model.go:130", after := #[{ on := 13, ground := Ground.data }, { on := 14, ground := Ground.chain }, { on := 0, ground := Ground.phase }, { on := 1, ground := Ground.phase }, { on := 2, ground := Ground.phase }, { on := 3, ground := Ground.phase }, { on := 4, ground := Ground.phase }, { on := 5, ground := Ground.phase }, { on := 6, ground := Ground.phase }, { on := 7, ground := Ground.phase }, { on := 8, ground := Ground.phase }, { on := 9, ground := Ground.phase }, { on := 10, ground := Ground.phase }, { on := 11, ground := Ground.phase }, { on := 12, ground := Ground.phase }, { on := 13, ground := Ground.phase }, { on := 14, ground := Ground.phase }], guard := none }) (v := ?_) rfl (by kernel_rfl) (by kernel_rfl) (by kernel_rfl) (fun _ _ _ h => h) (Or.inl ⟨by rfl, ?_⟩) (by assumption) ?_
    rotate_left
    · intro W hSw
      clear hSw
      go_simp
      try with_reducible rfl
    simp only [Act.put, List.setIfInBounds_toArray, List.set_cons_zero, List.set_cons_succ]
    refine wpAnyH_done (by kernel_rfl) (NoPanic.normal ?_) _
    clear hHeld
    have HS2 := Lib.hid (below_setRow HB4.out (Nat.le_refl _) #[.int .i64 vw, .int .i64 vts, .bool vtm, .string vv])
    have HS1 : Hid (Blk (w4.setRow w.heap.size #[.int .i64 vw, .int .i64 vts, .bool vtm, .string vv]) w.heap.size #[.int .i64 vw, .int .i64 vts, .bool vtm, .string vv] 26) := Lib.hid (Blk.setRow_self K64.out)
    go_wp2
    refine bodyPost_ret (results_cell_row2 rfl _ _ w.heap.size 26 _ (0, 0) _ rfl HS1.out Try.underlying26 rfl (by kernel_rfl) rfl) rfl ?_
    exact ⟨rfl, HS2.out⟩
set_option maxRecDepth 100000 in
set_option maxHeartbeats 16000000 in
theorem clashm_any (B p : Nat) (s : MS) (S : Nat → Prop) (j : Nat) (key : ByteArray) (w : World) (h : MR w B p s S) (hj : 1 ≤ j) (hl : j ≤ s.txns.length) (hn : s.txns.length ≤ 100000) (hk : key.size ≤ maxLen) : Calls Try.prog 79 #[.pointer (some ⟨p, 0, none⟩), .int .i64 (j : Int), .string key] w fun e w' => e = .returned (.bool (clashM s (j : Int) (getR s key))) ∧ Below w.heap.size w w' := by
  obtain ⟨x, h, _⟩ := h
  have k12 := h.c0 12
  have hlk := h.look0 key hk
  have hg := h.getR key
  have hat := h.hdAt key
  generalize hdG x key = hd at *
  obtain ⟨A, n, c, L, ⟨iw, its, itm, iv⟩⟩ := hd
  unfold rowV at hlk
  simp only at hlk
  simp only [mdC, List.getElem?_cons_succ, List.getElem?_cons_zero] at k12
  have hrv : clashM s (j : Int) (getR s key) = ((decide (0 < iw) && decide (iw ≠ (j : Int))) || clashB L (snW s (j : Int))) := by rw [hg]; rfl
  rw [hrv]
  have hb2 : Below w.heap.size w (w.alloc (.cells #[.slice A n c, .int .i64 iw, .int .i64 its, .bool itm, .string iv] 114)) := (Below.refl _ _).alloc (Nat.le_refl _) _
  have HB := Lib.hid hb2
  have K8 : Hid (Blk (w.alloc (.cells #[.slice A n c, .int .i64 iw, .int .i64 its, .bool itm, .string iv] 114)) w.heap.size #[.slice A n c, .int .i64 iw, .int .i64 its, .bool itm, .string iv] 114) := Lib.hid (Blk.new _ _ 114)
  obtain ⟨N, hN⟩ : ∃ N, s.txns.length = N := ⟨_, rfl⟩
  obtain ⟨g, off, c2, t10, tsn, _⟩ := (h.later hb2).snap hj hN (by omega)
  have HV : Hid (Vers (w.alloc (.cells #[.slice A n c, .int .i64 iw, .int .i64 its, .bool itm, .string iv] 114)).heap.size (w.alloc (.cells #[.slice A n c, .int .i64 iw, .int .i64 its, .bool itm, .string iv] 114)) A n L) := Lib.hid (vers_of (hat.later ((Below.refl _ _).alloc (Nat.le_refl _) _)))
  have HN8 : Hid (n ≤ 8) := Lib.hid hat.2.2.2
  have wj : wrap64 ((j : Int) - 1) = (j : Int) - 1 := by unfold wrap64; omega
  have wj2 : IntKind.i64.wrap ((j : Int) - 1) = (j : Int) - 1 := IntWalk.i64_in _ (by omega)
  have i3 := idx106 g off N c2 (j - 1) ((j : Int) - 1) (by omega) (by omega)
  clear hrv hg hb2 hat h hj hl hn hN
  generalize snW s (j : Int) = sn at *
  have HW : (decide (0 < iw) = true ∧ decide (iw > 0) = true ∧ (iw != (j : Int)) = true ∧ decide (iw ≠ (j : Int)) = true) ∨ (decide (0 < iw) = true ∧ decide (iw > 0) = true ∧ (iw != (j : Int)) = false ∧ decide (iw ≠ (j : Int)) = false) ∨ (decide (0 < iw) = false ∧ decide (iw > 0) = false) := by
    by_cases a : 0 < iw
    · by_cases b : iw = (j : Int)
      · exact .inr (.inl ⟨decide_eq_true a, decide_eq_true a, by rw [b]; simp, decide_eq_false (fun e => e b)⟩)
      · exact .inl ⟨decide_eq_true a, decide_eq_true a, by rw [bne_iff_ne]; exact b, decide_eq_true b⟩
    · exact .inr (.inr ⟨decide_eq_false a, decide_eq_false a⟩)
  rcases HW with ⟨d1, d2, d3, d4⟩ | ⟨d1, d2, d3, d4⟩ | ⟨d1, d2⟩
  · have HR : Hid ((decide (0 < iw) && decide (iw ≠ (j : Int)) || clashB L sn) = true) := Lib.hid (by rw [d1, d4]; rfl)
    obtain ⟨r, hr⟩ : ∃ r, (decide (0 < iw) && decide (iw ≠ (j : Int)) || clashB L sn) = r := ⟨_, rfl⟩
    rw [hr] at HR ⊢
    clear hr
    go_enter Try.func79, Try.ntmps79
    go_upto_region 2 with (fail)
    clear hlk k12
    generalize (w.alloc (.cells #[.slice A n c, .int .i64 iw, .int .i64 its, .bool itm, .string iv] 114)) = w2 at *
    have z0 := K8.out.cell 0
    have z1 := K8.out.cell 1
    have z2 := K8.out.cell 2
    have z3 := K8.out.cell 3
    have z4 := K8.out.cell 4
    simp only [List.getElem?_toArray, List.getElem?_cons_zero, List.getElem?_cons_succ] at z0 z1 z2 z3 z4
    go_wp2
    go_quiet (fail)
    go_wp2
    go_ret
    exact ⟨by rw [HR.out]; rfl, below_drewN HB.out _⟩
  · have HR : Hid ((decide (0 < iw) && decide (iw ≠ (j : Int)) || clashB L sn) = clashB L sn) := Lib.hid (by rw [d1, d4]; simp)
    obtain ⟨r, hr⟩ : ∃ r, (decide (0 < iw) && decide (iw ≠ (j : Int)) || clashB L sn) = r := ⟨_, rfl⟩
    rw [hr] at HR ⊢
    clear hr
    go_enter Try.func79, Try.ntmps79
    go_upto_region 2 with (fail)
    clear hlk k12
    generalize (w.alloc (.cells #[.slice A n c, .int .i64 iw, .int .i64 its, .bool itm, .string iv] 114)) = w2 at *
    have HC : Hid (∀ q, Calls Try.prog 101 #[.slice A n c, .int .i64 sn] (w2.drewN q) fun e w' => e = .returned (.bool (clashB L sn)) ∧ w' = w2.drewN q) := Lib.hid (fun q => (clash_any A n c L sn _ (vers_later HV.out (below_drewN (Below.refl _ _) q)) (by have := HN8.out; omega)).mono (fun _ _ h => ⟨h.1, h.2.symm⟩))
    rw [← HR.out] at HC
    have z0 := K8.out.cell 0
    have z1 := K8.out.cell 1
    have z2 := K8.out.cell 2
    have z3 := K8.out.cell 3
    have z4 := K8.out.cell 4
    simp only [List.getElem?_toArray, List.getElem?_cons_zero, List.getElem?_cons_succ] at z0 z1 z2 z3 z4
    go_wp2
    go_quiet ((go_at_call 101; exact Calls.quiet_of_same (HC.out _)))
    go_wp2
    go_ret
    exact ⟨rfl, below_drewN HB.out _⟩
  · have HR : Hid ((decide (0 < iw) && decide (iw ≠ (j : Int)) || clashB L sn) = clashB L sn) := Lib.hid (by rw [d1]; simp)
    obtain ⟨r, hr⟩ : ∃ r, (decide (0 < iw) && decide (iw ≠ (j : Int)) || clashB L sn) = r := ⟨_, rfl⟩
    rw [hr] at HR ⊢
    clear hr
    go_enter Try.func79, Try.ntmps79
    go_upto_region 2 with (fail)
    clear hlk k12
    generalize (w.alloc (.cells #[.slice A n c, .int .i64 iw, .int .i64 its, .bool itm, .string iv] 114)) = w2 at *
    have HC : Hid (∀ q, Calls Try.prog 101 #[.slice A n c, .int .i64 sn] (w2.drewN q) fun e w' => e = .returned (.bool (clashB L sn)) ∧ w' = w2.drewN q) := Lib.hid (fun q => (clash_any A n c L sn _ (vers_later HV.out (below_drewN (Below.refl _ _) q)) (by have := HN8.out; omega)).mono (fun _ _ h => ⟨h.1, h.2.symm⟩))
    rw [← HR.out] at HC
    have z0 := K8.out.cell 0
    have z1 := K8.out.cell 1
    have z2 := K8.out.cell 2
    have z3 := K8.out.cell 3
    have z4 := K8.out.cell 4
    simp only [List.getElem?_toArray, List.getElem?_cons_zero, List.getElem?_cons_succ] at z0 z1 z2 z3 z4
    go_wp2
    go_quiet ((go_at_call 101; exact Calls.quiet_of_same (HC.out _)))
    go_wp2
    go_ret
    exact ⟨rfl, below_drewN HB.out _⟩
end Go.Proofs.Ytoinjnocopejjaa
