/- The document's writers: the object, what it is asked. -/
import Derived.Test.YtmkgipbepipjkaaDoorP
namespace Go.Proofs.YtmkgipbepipjkaaDoor
open Go.ChangeShapes Go.WideShapes Go.ChangeAt Go.RowKit
set_option linter.unusedVariables false
set_option linter.unusedSimpArgs false

theorem r59info : (Tryd.prog.info? 59).map (fun i => (i.zero, i.size, i.bytes)) = some (some (.agg #[.int .u8 0, .int .i64 0]), 2, 16) := by kernel_rfl
def ROwn (W : World) (B : Nat) (v : Value) (L : List Wr) : Prop := W.ownsRow B 59 2 v L.length (wrv L)
section
variable {W W' : World} {B B' p q : Nat} {v u : Value} {L M : List Wr} {la lb : Int} {en : Nat}
theorem ROwn.sl (h : ROwn W B v L) : ∃ A c, v = .slice A L.length c ∧ L.length ≤ c ∧ ∀ j, j < L.length → ∃ g, A = some ⟨g, 0, none⟩ ∧ v.ownBlock = some g ∧ B ≤ g ∧ g < W.heap.size ∧ W.cell? ⟨g, j * 2, none⟩ = some (.int .u8 (L.getD j w0r).1) ∧ W.cell? ⟨g, j * 2 + 1, none⟩ = some (.int .i64 (L.getD j w0r).2) ∧ W.frozen? ⟨g, j * 2, none⟩ = false ∧ W.frozen? ⟨g, j * 2 + 1, none⟩ = false := by
  have hO := h
  unfold ROwn at hO
  rcases h.2 with ⟨rfl, h2⟩ | ⟨g, cap, cur, rfl, hB, hg, hn, hm, hs, ht⟩
  · have hL : L.length = 0 := h2
    exact ⟨none, 0, by rw [hL], by omega, fun j hj => by omega⟩
  · refine ⟨_, cap, rfl, hn, fun j hj => ⟨g, rfl, rfl, hB, (Array.getElem?_eq_some_iff.1 hg).1, ?_, ?_, hO.frozenAt _, hO.frozenAt _⟩⟩
    · rw [hO.cellAt _ (by omega)]; exact (wrv_at L j hj).1
    · rw [hO.cellAt _ (by omega)]; exact (wrv_at L j hj).2
theorem ROwn.nil (W : World) (B : Nat) : ROwn W B (.slice none 0 0) [] := World.ownsRow_nil _ _ _ _
theorem ROwn.tag (h : ROwn W B v L) : ∀ k, v.ownBlock = some k → ∃ cur, W.heap[k]? = some (.cells cur 59 (0, 0)) := fun k hk => by
  rcases h.2 with ⟨rfl, _⟩ | ⟨g, cap, cur, rfl, hb, hg, _⟩
  · cases hk
  · cases hk; exact ⟨cur, hg⟩
theorem ROwn.lt (h : ROwn W B v L) : ∀ k, v.ownBlock = some k → B ≤ k ∧ k < W.heap.size := World.ownsRow.lt h
theorem ROwn.base (h : ROwn W B v L) (hb : B' ≤ B) : ROwn W B' v L := by
  obtain ⟨h1, h2⟩ := h
  refine ⟨h1, ?_⟩
  rcases h2 with h2 | ⟨g', cap', cur, e, hB, rest⟩
  · exact .inl h2
  · exact .inr ⟨g', cap', cur, e, Nat.le_trans hb hB, rest⟩
theorem ROwn.set (h : ROwn W B v L) {g j : Nat} (hg : v.ownBlock = some g) (x : Wr) : ROwn ((W.setCell ⟨g, j * 2, none⟩ (.int .u8 x.1)).setCell ⟨g, j * 2 + 1, none⟩ (.int .i64 x.2)) B v (L.set j x) := by
  have hO := h
  unfold ROwn at hO ⊢
  rcases h.2 with ⟨rfl, h2⟩ | ⟨g', cap, cur, rfl, _⟩
  · cases hg
  · cases hg
    have e := ((hO.stored (j * 2) (.int .u8 x.1)).1.stored (j * 2 + 1) (.int .i64 x.2)).1
    rw [wrv_set] at e
    simpa using e
theorem ROwn.keep (h : ROwn W B u M) (hk : ∀ k, u.ownBlock = some k → W'.heap[k]? = W.heap[k]?) : ROwn W' B u M := by
  obtain ⟨h3, h4⟩ := h
  refine ⟨h3, ?_⟩
  rcases h4 with h4 | ⟨g, cap, cur, rfl, hB, hg, rest⟩
  · exact .inl h4
  · exact .inr ⟨g, cap, cur, rfl, hB, (hk g rfl).trans hg, rest⟩
theorem WOwn.keep (h : WOwn W B u M) (hk : ∀ k, u.ownBlock = some k → W'.heap[k]? = W.heap[k]?) : WOwn W' B u M := by
  obtain ⟨h3, h4⟩ := h
  refine ⟨h3, ?_⟩
  rcases h4 with h4 | ⟨g, cap, cur, rfl, hB, hg, rest⟩
  · exact .inl h4
  · exact .inr ⟨g, cap, cur, rfl, hB, (hk g rfl).trans hg, rest⟩
/-- the document's object -/
structure RfAt (W : World) (B p : Nat) (v : Value) (L : List Wr) : Prop where
  hp : B ≤ p
  blk : Blk W p #[v] 57
  own : ROwn W B v L
theorem RfAt.keep (h : RfAt W B p v L) (hk : ∀ (k : Nat) (cur : Array Value) (t : TypeId), W.heap[k]? = some (.cells cur t (0, 0)) → (t = 59 ∨ (t = 57 ∧ k = p)) → W'.heap[k]? = W.heap[k]?) : RfAt W' B p v L :=
  ⟨h.hp, (hk p _ _ h.blk (.inr ⟨rfl, rfl⟩)).trans h.blk, h.own.keep (fun k e => by obtain ⟨cur, hc⟩ := h.own.tag k e; exact hk k _ _ hc (.inl rfl))⟩
theorem RfAt.later (h : RfAt W B p v L) (hb : Below W.heap.size W W') : RfAt W' B p v L :=
  h.keep (fun k cur t hk _ => hb.block k (Array.getElem?_eq_some_iff.1 hk).1)
theorem RfAt.base (h : RfAt W B p v L) (hb : B' ≤ B) : RfAt W B' p v L := ⟨Nat.le_trans hb h.hp, h.blk, h.own.base hb⟩
theorem RfAt.plt (h : RfAt W B p v L) : p < W.heap.size := h.blk.lt
theorem RfAt.cells (h : RfAt W B p v L) : ∃ A c, v = .slice A L.length c ∧ L.length ≤ c ∧ W.cell? ⟨p, 0, none⟩ = some (.slice A L.length c) ∧ W.frozen? ⟨p, 0, none⟩ = false := by
  obtain ⟨A, c, rfl, hc, _⟩ := h.own.sl
  exact ⟨A, c, rfl, hc, h.blk.cell 0, h.blk.frozen 0⟩
theorem WrAt.keep (h : WrAt W B p v L la en) (hk : ∀ (k : Nat) (cur : Array Value) (t : TypeId), W.heap[k]? = some (.cells cur t (0, 0)) → (t = 49 ∨ t = 47) → W'.heap[k]? = W.heap[k]?) : WrAt W' B p v L la en :=
  ⟨h.hp, (hk p _ _ h.blk (.inr rfl)).trans h.blk, h.own.keep (fun k e => by obtain ⟨cur, hc⟩ := h.own.tag k e; exact hk k _ _ hc (.inl rfl)), h.le, h.nb, h.la0, h.la1, h.st⟩
/-- an object of ours turns: the document's stays -/
theorem RfAt.frW (h : RfAt W B q u M) (f : Fr W W' p v) (o : WrAt W B' p v L la en) : RfAt W' B q u M := h.keep (fun k cur t hk ht => by
  refine f.block k (Array.getElem?_eq_some_iff.1 hk).1 (fun e => ?_) (fun e => ?_)
  · have h2 : W.heap[p]? = some (.cells #[v, .int .i64 en, .int .i64 la] 47 (0, 0)) := o.blk
    rw [e, h2] at hk; cases hk; rcases ht with h | ⟨h, _⟩ <;> cases h
  · obtain ⟨cur', hc⟩ := o.own.tag k e
    rw [hc] at hk; cases hk; rcases ht with h | ⟨h, _⟩ <;> cases h)
abbrev nilv : Value := .slice none 0 0
/-- one block turns: another one of the document's objects stays -/
theorem RfAt.frQ (h : RfAt W B q u M) (f : Fr W W' p nilv) {cs : Array Value} {t : TypeId} (hb : Blk W p cs t) (ht : t ≠ 59) (hq : q ≠ p) : RfAt W' B q u M := h.keep (fun k cur t' hk ht' => by
  refine f.block k (Array.getElem?_eq_some_iff.1 hk).1 (fun e => ?_) (fun e => by cases e)
  have h2 : W.heap[p]? = some (.cells cs t (0, 0)) := hb
  rcases ht' with rfl | ⟨_, h'⟩
  · rw [e, h2] at hk; cases hk; exact ht rfl
  · exact hq (h'.symm.trans e))
theorem WrAt.frQ (h : WrAt W B q u M la en) (f : Fr W W' p nilv) {cs : Array Value} {t : TypeId} (hb : Blk W p cs t) (h1 : t ≠ 47) (h2 : t ≠ 49) : WrAt W' B q u M la en := h.keep (fun k cur t' hk ht' => by
  refine f.block k (Array.getElem?_eq_some_iff.1 hk).1 (fun e => ?_) (fun e => by cases e)
  have h3 : W.heap[p]? = some (.cells cs t (0, 0)) := hb
  rw [e, h3] at hk; cases hk
  rcases ht' with rfl | rfl
  · exact h2 rfl
  · exact h1 rfl)
theorem TabAt.frQ (h : TabAt W) (f : Fr W W' p nilv) (hq : 0 < p) : TabAt W' := by
  have e : W'.heap[0]? = W.heap[0]? := f.block 0 h.lt (by omega) (fun e => by cases e)
  have c : ∀ j, W'.cell? ⟨0, j, none⟩ = W.cell? ⟨0, j, none⟩ := fun j => World.cell?_of_block (a := ⟨0, j, none⟩) e
  exact ⟨(c 0).trans h.1, (c 1).trans h.2.1, (c 2).trans h.2.2.1, (c 3).trans h.2.2.2.1, (c 4).trans h.2.2.2.2⟩
end
theorem rindex (g m c k : Nat) (i : Int) (hi : i = (k : Int)) (h : k < m) (W : World) : (Instr.indexAt 55 (.slice (some ⟨g, 0, none⟩) m c) (.int .i64 i)).run Tryd.prog W = .ok (.pointer (some ⟨g, k * 2, none⟩)) W := by
  subst hi
  have h1 : (0 : Int) ≤ (k : Int) ∧ (k : Int) < (m : Int) := by omega
  go_simp
set_option maxRecDepth 100000 in
set_option maxHeartbeats 4000000 in
theorem rnew_any (w : World) : Calls Tryd.prog 20 #[] w fun x w' => x = .returned (.pointer (some ⟨w.heap.size, 0, none⟩)) ∧ RfAt w' w.heap.size w.heap.size nilv [] ∧ Below w.heap.size w w' := by
  have hb0 : Below w.heap.size w (w.alloc (.cells #[nilv] 57)) := (Below.refl _ _).alloc (Nat.le_refl _) _
  have HB := Lib.hid hb0
  have HO : Hid (RfAt (w.alloc (.cells #[nilv] 57)) w.heap.size w.heap.size nilv []) := ⟨Nat.le_refl _, Blk.new _ _ _, ROwn.nil _ _⟩
  clear hb0
  go_enter Tryd.func20, Tryd.ntmps20
  go_wp2
  go_ret
  exact ⟨rfl, HO.out, HB.out⟩
set_option maxRecDepth 100000 in
set_option maxHeartbeats 4000000 in
theorem rcopy_any (B p : Nat) (v : Value) (L : List Wr) (w : World) (h : RfAt w B p v L) (hB : B ≤ w.heap.size) : Calls Tryd.prog 21 #[.pointer (some ⟨p, 0, none⟩)] w fun x w' => x = .returned (.pointer (some ⟨w.heap.size, 0, none⟩)) ∧ RfAt w' B w.heap.size v L ∧ Below w.heap.size w w' := by
  obtain ⟨A, c, rfl, hc, k0, _⟩ := h.cells
  have hb0 : Below w.heap.size w (w.alloc (.cells #[.slice A L.length c] 57)) := (Below.refl _ _).alloc (Nat.le_refl _) _
  have HB := Lib.hid hb0
  have HO : Hid (RfAt (w.alloc (.cells #[.slice A L.length c] 57)) B w.heap.size (.slice A L.length c) L) := ⟨hB, Blk.new _ _ _, (h.later hb0).own⟩
  clear hb0 h
  go_enter Tryd.func21, Tryd.ntmps21
  go_wp2
  go_ret
  exact ⟨rfl, HO.out, HB.out⟩
set_option maxRecDepth 100000 in
set_option maxHeartbeats 4000000 in
theorem rhigh_any (B p : Nat) (v : Value) (L : List Wr) (w : World) (h : RfAt w B p v L) (hn : L.length ≤ 1000000) : Calls Tryd.prog 36 #[.pointer (some ⟨p, 0, none⟩)] w fun x w' => x = .returned (.int .i64 ((L.length : Int) + 1)) ∧ w = w' := by
  obtain ⟨A, c, rfl, hc, k0, _⟩ := h.cells
  have w1 : IntKind.i64.wrap ((L.length : Int) + 1) = (L.length : Int) + 1 := IntWalk.i64_in _ (by omega)
  clear h
  go_enter Tryd.func36, Tryd.ntmps36
  go_wp2
  go_ret
  exact ⟨rfl, rfl⟩
/-- the greatest of the first k timestamps -/
def lastK (L : List Wr) : Nat → Int
  | 0 => 0
  | k + 1 => if lastK L k < (L.getD k w0r).2 then (L.getD k w0r).2 else lastK L k
def lastL (L : List Wr) : Int := lastK L L.length
set_option maxRecDepth 100000 in
set_option maxHeartbeats 4000000 in
theorem rlast_any (B p : Nat) (v : Value) (L : List Wr) (w : World) (h : RfAt w B p v L) (hn : L.length ≤ 1000000) : Calls Tryd.prog 27 #[.pointer (some ⟨p, 0, none⟩)] w fun x w' => x = .returned (.int .i64 (lastL L)) ∧ w = w' := by
  obtain ⟨A, c, rfl, hc, k0, _⟩ := h.cells
  obtain ⟨A', c', e, _, hat⟩ := h.own.sl
  cases e
  have HAT := Lib.hid hat
  clear h hat
  go_enter Tryd.func27, Tryd.ntmps27
  go_wp2
  go_loopw [3, 4] (fun l i wr => ∃ k : Nat, k ≤ L.length ∧ i = .int .i64 k ∧ l = .int .i64 (lastK L k) ∧ wr = w) (fun _ i _ => L.length - (intOf i).toNat)
  case atStart => exact ⟨0, Nat.zero_le _, rfl, rfl, rfl⟩
  case round =>
    obtain ⟨k, hk, rfl, rfl, rfl⟩ := hrel
    by_cases hlt : k < L.length
    · obtain ⟨g, rfl, _, _, _, x0, x1, _⟩ := HAT.out k hlt
      have d2 : decide ((k : Int) < (L.length : Int)) = true := decide_eq_true (by omega)
      have i1 := rindex g L.length c k (k : Int) rfl hlt
      have wk : IntKind.i64.wrap ((k : Int) + 1) = (k : Int) + 1 := IntWalk.i64_in _ (by omega)
      by_cases hl : lastK L k < (L.getD k w0r).2
      · have HL : Hid (lastK L (k + 1) = (L.getD k w0r).2) := if_pos hl
        have d1 : decide (lastK L k < (L.getD k w0r).2) = true := decide_eq_true hl
        generalize (L.getD k w0r) = z at *
        generalize lastK L k = y at *
        clear hl
        go_wp2
        go_roundw
        case rel => exact ⟨k + 1, by omega, by go_num, by rw [HL.out], by first | rfl | trivial⟩
        case measure => simp [intOf]; omega
      · have HL : Hid (lastK L (k + 1) = lastK L k) := if_neg hl
        have d1 : decide (lastK L k < (L.getD k w0r).2) = false := decide_eq_false hl
        generalize (L.getD k w0r) = z at *
        generalize lastK L k = y at *
        clear hl
        go_wp2
        go_roundw
        case rel => exact ⟨k + 1, by omega, by go_num, by rw [HL.out], by first | rfl | trivial⟩
        case measure => simp [intOf]; omega
    · obtain rfl : k = L.length := by omega
      have d2 : decide ((L.length : Int) < (L.length : Int)) = false := decide_eq_false (by omega)
      go_wp2
      go_ret
      exact ⟨rfl, rfl⟩
set_option maxRecDepth 100000 in
set_option maxHeartbeats 4000000 in
theorem ractive_any (B p : Nat) (v : Value) (L : List Wr) (w : World) (h : RfAt w B p v L) (hn : L.length ≤ 1000000) : Calls Tryd.prog 37 #[.pointer (some ⟨p, 0, none⟩)] w fun x w' => x = .returned (.int .i64 (actL L : Nat)) ∧ w = w' := by
  obtain ⟨A, c, rfl, hc, k0, _⟩ := h.cells
  obtain ⟨A', c', e, _, hat⟩ := h.own.sl
  cases e
  have HAT := Lib.hid hat
  clear h hat
  go_enter Tryd.func37, Tryd.ntmps37
  go_wp2
  go_loopw [3, 4] (fun l i wr => ∃ k : Nat, k ≤ L.length ∧ i = .int .i64 k ∧ l = .int .i64 (actOf (seqE L 0 k) : Nat) ∧ wr = w) (fun _ i _ => L.length - (intOf i).toNat)
  case atStart => exact ⟨0, Nat.zero_le _, rfl, rfl, rfl⟩
  case round =>
    obtain ⟨k, hk, rfl, rfl, rfl⟩ := hrel
    by_cases hlt : k < L.length
    · obtain ⟨g, rfl, _, _, _, x0, x1, _⟩ := HAT.out k hlt
      have d2 : decide ((k : Int) < (L.length : Int)) = true := decide_eq_true (by omega)
      have i1 := rindex g L.length c k (k : Int) rfl hlt
      have wk : IntKind.i64.wrap ((k : Int) + 1) = (k : Int) + 1 := IntWalk.i64_in _ (by omega)
      have hal := actOf_len (seqE L 0 k)
      rw [seqE_len] at hal
      obtain ⟨⟨s, t⟩, hst⟩ : ∃ x, L.getD k w0r = x := ⟨_, rfl⟩
      have hna := actOf_next L k hst
      rw [hst] at x0 x1
      simp only at x0 x1
      have wa : IntKind.i64.wrap ((actOf (seqE L 0 k) : Int) + 1) = (actOf (seqE L 0 k) : Int) + 1 := IntWalk.i64_in _ (by omega)
      clear hst
      by_cases hs : s = 1
      · subst hs
        have HNA := Lib.hid (hna.trans (if_pos rfl))
        clear hna
        go_wp2
        go_roundw
        case rel => exact ⟨k + 1, by omega, by go_num, by rw [HNA.out]; go_num, by first | rfl | trivial⟩
        case measure => simp [intOf]; omega
      · have HNA := Lib.hid (hna.trans (if_neg hs))
        have ds : (s == 1) = false := ieq_no hs
        clear hna
        go_wp2
        go_roundw
        case rel => exact ⟨k + 1, by omega, by go_num, by rw [HNA.out], by first | rfl | trivial⟩
        case measure => simp [intOf]; omega
    · obtain rfl : k = L.length := by omega
      have d2 : decide ((L.length : Int) < (L.length : Int)) = false := decide_eq_false (by omega)
      go_wp2
      go_ret
      exact ⟨rfl, rfl⟩
set_option maxRecDepth 100000 in
set_option maxHeartbeats 4000000 in
theorem rof_any (B p : Nat) (v : Value) (L : List Wr) (i : Int) (w : World) (h : RfAt w B p v L) (hn : L.length ≤ 1000000) : Calls Tryd.prog 39 #[.pointer (some ⟨p, 0, none⟩), .int .i64 i] w (OfEnd (ofL L i) w) := by
  obtain ⟨A, c, rfl, hc, k0, _⟩ := h.cells
  obtain ⟨A', c', e, _, hat⟩ := h.own.sl
  cases e
  by_cases c1 : i < 1
  · have HR := Lib.hid (of_out (L := L) (w := i) (.inl c1))
    have d1 : decide (i < 1) = true := decide_eq_true c1
    clear h hat
    go_enter Tryd.func39, Tryd.ntmps39
    go_wp2
    go_ret2
    exact of_end HR.out (Below.refl _ _)
  · have d1 : decide (i < 1) = false := decide_eq_false c1
    by_cases c2 : (L.length : Int) < i
    · have HR := Lib.hid (of_out (L := L) (w := i) (.inr c2))
      have d2 : decide ((L.length : Int) < i) = true := decide_eq_true c2
      clear h hat
      go_enter Tryd.func39, Tryd.ntmps39
      go_wp2
      go_ret2
      exact of_end HR.out (Below.refl _ _)
    · have d2 : decide ((L.length : Int) < i) = false := decide_eq_false c2
      obtain ⟨k, rfl⟩ : ∃ k : Nat, i = (k : Int) + 1 := ⟨(i - 1).toNat, by omega⟩
      have hk : k < L.length := by omega
      obtain ⟨g, rfl, _, _, _, x0, x1, _⟩ := hat k hk
      have HR := Lib.hid (of_in hk)
      have i1 := rindex g L.length c k (k : Int) rfl hk
      have w1 : IntKind.i64.wrap ((k : Int) + 1 - 1) = (k : Int) := (IntWalk.i64_in _ (by omega)).trans (by omega)
      have w2 : (k : Int) + 1 - 1 = (k : Int) := by omega
      have w3 : wrap64 (k : Int) = (k : Int) := by unfold wrap64; omega
      have w4 : IntKind.i64.wrap (k : Int) = (k : Int) := IntWalk.i64_in _ (by omega)
      generalize L.getD k w0r = x at *
      obtain ⟨xs, xt⟩ := x
      simp only at x0 x1
      clear h hat c1 c2 hk
      go_enter Tryd.func39, Tryd.ntmps39
      go_wp2
      go_big_region
      go_wp2
      go_ret2
      exact of_end HR.out (by first | exact (Below.refl _ _).drew | exact below_drewN (Below.refl _ _) _ | exact Below.refl _ _)
end Go.Proofs.YtmkgipbepipjkaaDoor
