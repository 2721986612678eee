/- The document's dead: what its functions do. -/
import Derived.Test.YtlnfdcaljmfbjaaP1
namespace Go.Proofs.Ytlnfdcaljmfbjaa
open Go.ChangeShapes Go.WideShapes Go.ChangeAt Go.RowKit Go.Maps
set_option linter.unusedVariables false
set_option linter.unusedSimpArgs false

def iv (x : Int) : Value := .int .i64 x
theorem elemI : Elem Try.prog 42 3 iv 8 where
  und := Try.underlying42
  info := by
    have h : (Try.prog.info? 3).map (fun i => (i.zero, i.size, i.bytes)) = some (some (.int .i64 0), 1, 8) := by kernel_rfl
    cases hi : Try.prog.info? 3 with
    | none => rw [hi] at h; cases h
    | some i => rw [hi] at h; simp only [Option.map_some, Option.some.injEq, Prod.mk.injEq] at h; exact ⟨i, _, rfl, h.1, h.2.1, h.2.2, rfl⟩
  one := fun _ => rfl
abbrev OwI (W : World) (B : Nat) (v : Value) (L : List Int) : Prop := Ow iv W B 3 v L.length L
/-- the document's object: its block, its row -/
structure RfAt (W : World) (B p : Nat) (v : Value) (L : List Int) : Prop where
  hp : B ≤ p
  blk : Blk W p #[v] 56
  own : OwI W B v L
section
variable {W W' : World} {B B' p q : Nat} {v : Value} {L : List Int}
theorem RfAt.later (h : RfAt W B p v L) (hb : Below W.heap.size W W') : RfAt W' B p v L := ⟨h.hp, h.blk.later hb, h.own.later hb⟩
theorem RfAt.base (h : RfAt W B p v L) (hb : B' ≤ B) : RfAt W B' p v L := ⟨Nat.le_trans hb h.hp, h.blk, Ow.base h.own hb⟩
theorem RfAt.plt (h : RfAt W B p v L) : p < W.heap.size := h.blk.lt
/-- what grows by a row of other tags, or by a row that lies elsewhere -/
theorem RfAt.grown {r : Option Nat} (h : RfAt W B p v L) (hg : W.grownBy W' r) (h1 : some p ≠ r) (h2 : ∀ k, v.ownBlock = some k → some k ≠ r) : RfAt W' B p v L :=
  ⟨h.hp, h.blk.grown hg h1, World.ownsRow.kept h.own hg (by
    cases ho : v.ownBlock with
    | none => exact .inl rfl
    | some k => exact .inr (fun e => h2 k ho e))⟩
theorem RfAt.row (h : RfAt W B p v L) : ∃ A c, v = .slice A L.length c ∧ Sl iv W A L.length c L := Ow.sl h.own
theorem ow_fr {W : World} {B : Nat} {v : Value} {L : List Int} (h : OwI W B v L) {g j : Nat} {x : Value} {cs : Array Value} {t : TypeId} (hb : Blk W g cs t) (ht : t ≠ 3) : OwI (W.setCell ⟨g, j, none⟩ x) B v L :=
  World.ownsRow.kept h (grown_set W g j x) (by
    cases ho : v.ownBlock with
    | none => exact .inl rfl
    | some k =>
      right; intro e; cases e
      obtain ⟨cur, hc⟩ := Ow.tag h g ho
      have h2 : W.heap[g]? = some (.cells cs t (0, 0)) := hb
      rw [hc] at h2; cases h2; exact ht rfl)
end
theorem rindex (A : Option Addr) (L : List Int) (c k : Nat) (W : World) (h : Sl iv W A L.length c L) (hk : k < L.length) : ∃ g off, A = some ⟨g, off, none⟩ ∧ W.cell? ⟨g, off + k, none⟩ = some (.int .i64 (L.getD k 0)) ∧ (Instr.indexAt 42 (.slice (some ⟨g, off, none⟩) L.length c) (.int .i64 (k : Int))).run Try.prog W = .ok (.pointer (some ⟨g, off + k, none⟩)) W := by
  obtain ⟨g, off, x, rfl, hx, hc⟩ := h.rd.at hk
  refine ⟨g, off, rfl, ?_, ?_⟩
  · rw [List.getD_eq_getElem?_getD, hx]; exact hc
  · have h1 : (0 : Int) ≤ (k : Int) ∧ (k : Int) < (L.length : Int) := by omega
    go_simp
/-- how an operation of the document's ends -/
def RfEnd (B p : Nat) (L : List Int) (r : Value) (w : World) (x : Ending) (w' : World) : Prop := x = .returned r ∧ ∃ v', RfAt w' B p v' L ∧ w.grownBy w' (some p)
set_option maxRecDepth 100000 in
set_option maxHeartbeats 4000000 in
theorem rnew_any (w : World) : Calls Try.prog 18 #[] w fun x w' => x = .returned (.pointer (some ⟨w.heap.size, 0, none⟩)) ∧ RfAt w' w.heap.size w.heap.size (.slice none 0 0) [] ∧ Below w.heap.size w w' := by
  have hb0 : Below w.heap.size w (w.alloc (.cells #[.slice none 0 0] 56)) := (Below.refl _ _).alloc (Nat.le_refl _) _
  have HB := Lib.hid hb0
  have HO : Hid (RfAt (w.alloc (.cells #[.slice none 0 0] 56)) w.heap.size w.heap.size (.slice none 0 0) []) := ⟨Nat.le_refl _, Blk.new _ _ _, Ow.none _ _ _⟩
  clear hb0
  go_enter Try.func18, Try.ntmps18
  go_wp2
  go_ret
  exact ⟨rfl, HO.out, HB.out⟩
def RCopyEnd (L : List Int) (w : World) (x : Ending) (w' : World) : Prop := ∃ q v', x = .returned (.pointer (some ⟨q, 0, none⟩)) ∧ RfAt w' w.heap.size q v' L ∧ Below w.heap.size w w'
set_option maxRecDepth 100000 in
set_option maxHeartbeats 4000000 in
theorem rcopy_any (B p : Nat) (v : Value) (L : List Int) (w : World) (h : RfAt w B p v L) (hn : L.length ≤ 1000) : Calls Try.prog 19 #[.pointer (some ⟨p, 0, none⟩)] w (RCopyEnd L w) := by
  obtain ⟨A, c, rfl, hs⟩ := h.row
  have hb0 : Below w.heap.size w (w.alloc (.cells #[] 3)) := (Below.refl _ _).alloc (Nat.le_refl _) _
  have H1 := Lib.hid (h.later hb0)
  have HS1 := Lib.hid (hs.later hb0)
  have HB1 := Lib.hid hb0
  have HO1 : Hid (Ow iv (w.alloc (.cells #[] 3)) w.heap.size 3 (.slice (some ⟨w.heap.size, 0, none⟩) 0 0) 0 []) := Ow.fresh (enc := iv) w 3 (Nat.le_refl _) rfl
  have k0 := H1.out.blk.cell 0
  simp only [List.getElem?_toArray, List.getElem?_cons_zero] at k0
  clear h hs hb0
  go_enter Try.func19, Try.ntmps19
  go_wp2_with (at_builtin; refine wpList_append_sl elemI rfl (.tmp 3) (.tmp 7) rfl w.heap.size _ 0 [] rfl HO1.out A L.length c L rfl HS1.out (by omega) (by decide) HB1.out.size ?_; intro v2 w2 ho2)
  intro hg2
  have ho3 : OwI w2 w.heap.size v2 L := by rw [Nat.zero_add] at ho2; exact ho2
  have hb2 : Below w.heap.size w w2 := HB1.out.grown hg2 HB1.out.size (fun k e => (Ow.lt HO1.out k e).1)
  have hb3 : Below w2.heap.size w2 (w2.alloc (.cells #[v2] 56)) := (Below.refl _ _).alloc (Nat.le_refl _) _
  have HF : Hid (RfAt (w2.alloc (.cells #[v2] 56)) w.heap.size w2.heap.size v2 L) := ⟨hb2.size, Blk.new _ _ _, Ow.later ho3 hb3⟩
  have HB3 := Lib.hid (stepB hb2 hb3)
  obtain ⟨A2, c2, rfl, _⟩ := Ow.sl ho3
  clear ho2 ho3 hb2 hb3 hg2 H1 HS1 HB1 HO1 k0
  go_wp2
  go_ret
  exact ⟨_, _, rfl, HF.out, HB3.out⟩
set_option maxRecDepth 100000 in
set_option maxHeartbeats 4000000 in
theorem rof_any (B p : Nat) (v : Value) (L : List Int) (t : Int) (w : World) (h : RfAt w B p v L) (hn : L.length ≤ 1000) : Calls Try.prog 24 #[.pointer (some ⟨p, 0, none⟩), .int .i64 t] w fun x w' => x = .returned (.int .i64 (L.foldl (stepC t) 0)) ∧ w = w' := by
  obtain ⟨A, c, rfl, hs⟩ := h.row
  have k0 := h.blk.cell 0
  simp only [List.getElem?_toArray, List.getElem?_cons_zero] at k0
  have HS := Lib.hid hs
  clear h hs
  go_enter Try.func24, Try.ntmps24
  go_wp2
  go_loopw [5, 6] (fun n i wr => ∃ k : Nat, k ≤ L.length ∧ i = .int .i64 k ∧ (∃ y : Int, n = .int .i64 y ∧ y = runF (stepC t) 0 L k ∧ 0 ≤ y ∧ y ≤ k) ∧ wr = w) (fun _ i _ => L.length - (intOf i).toNat)
  case atStart => exact ⟨0, Nat.zero_le _, rfl, ⟨0, rfl, rfl, Int.le_refl _, Int.le_refl _⟩, rfl⟩
  case round =>
    obtain ⟨k, hk, rfl, ⟨y, rfl, hy, hy0, hyk⟩, rfl⟩ := hrel
    have HY := Lib.hid hy
    clear hy
    by_cases hlt : k < L.length
    · have d2 : decide ((k : Int) < (L.length : Int)) = true := decide_eq_true (by omega)
      have wk : IntKind.i64.wrap ((k : Int) + 1) = (k : Int) + 1 := IntWalk.i64_in _ (by omega)
      have wy : IntKind.i64.wrap (y + 1) = y + 1 := IntWalk.i64_in _ (by omega)
      obtain ⟨g, off, rfl, x0, i1⟩ := rindex A L c k _ HS.out hlt
      have HN := Lib.hid (runF_succ (stepC t) 0 L hlt)
      rw [← HY.out] at HN
      generalize L.getD k 0 = z at *
      by_cases e : z = t
      · subst e
        have dz : (z == z) = true := by simp
        have HN2 : Hid (runF (stepC z) 0 L (k + 1) = y + 1) := HN.out.trans (if_pos rfl)
        clear HN
        go_wp2
        go_roundw
        case rel => exact ⟨k + 1, by omega, by go_num, ⟨y + 1, rfl, HN2.out.symm, by omega, by omega⟩, by first | rfl | trivial⟩
        case measure => simp [intOf]; omega
      · have dz : (z == t) = false := by rw [beq_eq_false_iff_ne]; exact e
        have HN2 : Hid (runF (stepC t) 0 L (k + 1) = y) := HN.out.trans (if_neg e)
        clear HN e
        go_wp2
        go_roundw
        case rel => exact ⟨k + 1, by omega, by go_num, ⟨y, rfl, HN2.out.symm, by omega, by omega⟩, by first | rfl | trivial⟩
        case measure => simp [intOf]; omega
    · obtain rfl : k = L.length := by omega
      have d2 : decide ((L.length : Int) < (L.length : Int)) = false := decide_eq_false (by omega)
      have HY2 : Hid (y = L.foldl (stepC t) 0) := HY.out.trans (runF_all _ _ _)
      clear HY
      go_wp2
      go_ret
      exact ⟨by rw [HY2.out]; rfl, rfl⟩
end Go.Proofs.Ytlnfdcaljmfbjaa
