/- The document's page in memory. -/
import Derived.Test.YtbnbhhmgfogjeaaJZ1
import Derived.StillTailTactics
import Derived.LoopTactic
import Derived.Deep.RegionHeld3
namespace Go.Proofs.Ytbnbhhmgfogjeaa
open Go.ChangeShapes Go.WideShapes Go.ChangeAt Go.RowKit Go.Maps
set_option linter.unusedVariables false
set_option linter.unusedSimpArgs false

def bv (b : Bool) : Value := .bool b
def iv (k : Nat) : Value := .int .i64 (k : Int)
theorem elemB : Elem Try.prog 58 4 bv 1 where
  und := Try.underlying58
  info := by
    have h : (Try.prog.info? 4).map (fun i => (i.zero, i.size, i.bytes)) = some (some (.bool false), 1, 1) := by kernel_rfl
    cases hi : Try.prog.info? 4 with
    | none => rw [hi] at h; cases h
    | some i => rw [hi] at h; simp only [Option.map_some, Option.some.injEq, Prod.mk.injEq] at h; exact ⟨i, _, rfl, h.1, h.2.1, h.2.2, rfl⟩
  one := fun _ => rfl
theorem elemI : Elem Try.prog 36 3 iv 8 where
  und := Try.underlying36
  info := by
    have h : (Try.prog.info? 3).map (fun i => (i.zero, i.size, i.bytes)) = some (some (.int .i64 0), 1, 8) := by kernel_rfl
    cases hi : Try.prog.info? 3 with
    | none => rw [hi] at h; cases h
    | some i => rw [hi] at h; simp only [Option.map_some, Option.some.injEq, Prod.mk.injEq] at h; exact ⟨i, _, rfl, h.1, h.2.1, h.2.2, rfl⟩
  one := fun _ => rfl
theorem idx49 (g m c k : Nat) (i : Int) (hi : i = (k : Int)) (h : k < m) (W : World) : (Instr.indexAt 61 (.slice (some ⟨g, 0, none⟩) m c) (.int .i64 i)).run Try.prog W = .ok (.pointer (some ⟨g, k, none⟩)) W := by
  subst hi
  have h1 : (0 : Int) ≤ (k : Int) ∧ (k : Int) < (m : Int) := by omega
  go_simp
theorem idx50 (g m c k : Nat) (i : Int) (hi : i = (k : Int)) (h : k < m) (W : World) : (Instr.indexAt 58 (.slice (some ⟨g, 0, none⟩) m c) (.int .i64 i)).run Try.prog W = .ok (.pointer (some ⟨g, k, none⟩)) W := by
  subst hi
  have h1 : (0 : Int) ≤ (k : Int) ∧ (k : Int) < (m : Int) := by omega
  go_simp
theorem idx35 (g m c k : Nat) (i : Int) (hi : i = (k : Int)) (h : k < m) (W : World) : (Instr.indexAt 36 (.slice (some ⟨g, 0, none⟩) m c) (.int .i64 i)).run Try.prog W = .ok (.pointer (some ⟨g, k, none⟩)) W := by
  subst hi
  have h1 : (0 : Int) ≤ (k : Int) ∧ (k : Int) < (m : Int) := by omega
  go_simp
/-- a row that is only read: of numbers -/
structure Ks (W : World) (B : Nat) (v : Value) (Bk : List Nat) : Prop where
  sl : ∃ A c, v = .slice A Bk.length c ∧ Sl iv W A Bk.length c Bk
  tg : ∀ k, v.ownBlock = some k → B ≤ k ∧ ∃ cur, W.heap[k]? = some (.cells cur 3 (0, 0))
theorem Ks.of {W : World} {B : Nat} {v : Value} {Bk : List Nat} (h : Ow iv W B 3 v Bk.length Bk) : Ks W B v Bk :=
  ⟨Ow.sl h, fun k hk => ⟨(Ow.lt h k hk).1, Ow.tag h k hk⟩⟩
theorem Ks.keep {W W' : World} {B : Nat} {v : Value} {Bk : List Nat} (h : Ks W B v Bk) (hz : W.heap.size ≤ W'.heap.size) (hk : ∀ k, v.ownBlock = some k → W'.heap[k]? = W.heap[k]?) : Ks W' B v Bk := by
  obtain ⟨A, c, rfl, hs⟩ := h.sl
  refine ⟨⟨A, c, rfl, ⟨⟨hs.rd.1, fun hn => ?_⟩, hs.le, hs.nil⟩⟩, fun k e => ?_⟩
  · obtain ⟨g, off, rfl, hg, hc⟩ := hs.rd.2 hn
    exact ⟨g, off, rfl, by omega, fun j x hx => (World.cell?_of_block (a := ⟨g, off + j, none⟩) (hk g rfl)).trans (hc j x hx)⟩
  · obtain ⟨h1, cur, h2⟩ := h.tg k e
    exact ⟨h1, cur, (hk k e).trans h2⟩
/-- the document's page -/
structure Dx (W : World) (B q s : Nat) (Bs : List ByteArray) (Us : List Bool) (Bk : List Nat) (vB vU vK : Value) : Prop where
  hq : B ≤ q
  blk : Blk W q #[.int .i64 (s : Int), vB, vU, vK] 107
  oB : Ow sv W B 9 vB Bs.length Bs
  oU : Ow bv W B 4 vU Us.length Us
  oK : Ks W B vK Bk
/-- all but the page and its two rows stays -/
structure FrD (w w' : World) (q : Nat) (vB vU : Value) : Prop where
  os : w'.os = w.os
  tape : w'.tape = w.tape
  output : w'.output = w.output
  size : w.heap.size ≤ w'.heap.size
  block : ∀ k, k < w.heap.size → k ≠ q → vB.ownBlock ≠ some k → vU.ownBlock ≠ some k → w'.heap[k]? = w.heap[k]?
/-- a row is the one that it was, or lies in new memory -/
def Nw (w : World) (v v' : Value) : Prop := ∀ k, v'.ownBlock = some k → v.ownBlock = some k ∨ w.heap.size ≤ k
theorem Nw.refl {w : World} {v : Value} : Nw w v v := fun _ h => .inl h
section
variable {W W' w w' w2 : World} {B q s : Nat} {Bs : List ByteArray} {Us : List Bool} {Bk : List Nat} {vB vU vK : Value}
theorem Dx.later (h : Dx W B q s Bs Us Bk vB vU vK) (hb : Below W.heap.size W W') : Dx W' B q s Bs Us Bk vB vU vK :=
  ⟨h.hq, h.blk.later hb, Ow.later h.oB hb, Ow.later h.oU hb, h.oK.keep hb.size (fun k e => by
    obtain ⟨_, cur, hc⟩ := h.oK.tg k e
    exact hb.block k (Array.getElem?_eq_some_iff.1 hc).1)⟩
theorem Dx.base {B' : Nat} (h : Dx W B q s Bs Us Bk vB vU vK) (hb : B' ≤ B) : Dx W B' q s Bs Us Bk vB vU vK :=
  ⟨Nat.le_trans hb h.hq, h.blk, Ow.base h.oB hb, Ow.base h.oU hb, ⟨h.oK.sl, fun k e => ⟨Nat.le_trans hb (h.oK.tg k e).1, (h.oK.tg k e).2⟩⟩⟩
theorem Dx.tags (h : Dx W B q s Bs Us Bk vB vU vK) : ∀ k, (vB.ownBlock = some k ∨ vU.ownBlock = some k ∨ vK.ownBlock = some k ∨ k = q) → ∃ cur t, W.heap[k]? = some (.cells cur t (0, 0)) ∧ t ≠ 102 := fun k hk => by
  rcases hk with e | e | e | rfl
  · obtain ⟨cur, hc⟩ := Ow.tag h.oB k e
    exact ⟨cur, 9, hc, by decide⟩
  · obtain ⟨cur, hc⟩ := Ow.tag h.oU k e
    exact ⟨cur, 4, hc, by decide⟩
  · obtain ⟨_, cur, hc⟩ := h.oK.tg k e
    exact ⟨cur, 3, hc, by decide⟩
  · exact ⟨_, 107, h.blk, by decide⟩
theorem Dx.lt (h : Dx W B q s Bs Us Bk vB vU vK) : q < W.heap.size ∧ (∀ k, vB.ownBlock = some k → B ≤ k ∧ k < W.heap.size) ∧ (∀ k, vU.ownBlock = some k → B ≤ k ∧ k < W.heap.size) ∧ (∀ k, vK.ownBlock = some k → B ≤ k ∧ k < W.heap.size) :=
  ⟨h.blk.lt, Ow.lt h.oB, Ow.lt h.oU, fun k e => by
    obtain ⟨h1, cur, hc⟩ := h.oK.tg k e
    exact ⟨h1, (Array.getElem?_eq_some_iff.1 hc).1⟩⟩
/-- the four blocks differ by their tags -/
theorem Dx.apart (h : Dx W B q s Bs Us Bk vB vU vK) : vB.ownBlock ≠ some q ∧ vU.ownBlock ≠ some q ∧ vK.ownBlock ≠ some q ∧ (∀ k, vB.ownBlock = some k → vU.ownBlock ≠ some k ∧ vK.ownBlock ≠ some k) ∧ (∀ k, vU.ownBlock = some k → vK.ownBlock ≠ some k) := by
  have hb : W.heap[q]? = some (.cells #[.int .i64 (s : Int), vB, vU, vK] 107 (0, 0)) := h.blk
  refine ⟨fun e => ?_, fun e => ?_, fun e => ?_, fun k e => ⟨fun e2 => ?_, fun e2 => ?_⟩, fun k e e2 => ?_⟩
  · obtain ⟨cur, hc⟩ := Ow.tag h.oB q e; rw [hb] at hc; cases hc
  · obtain ⟨cur, hc⟩ := Ow.tag h.oU q e; rw [hb] at hc; cases hc
  · obtain ⟨_, cur, hc⟩ := h.oK.tg q e; rw [hb] at hc; cases hc
  · obtain ⟨cur, hc⟩ := Ow.tag h.oB k e
    obtain ⟨cur2, hc2⟩ := Ow.tag h.oU k e2; rw [hc] at hc2; cases hc2
  · obtain ⟨cur, hc⟩ := Ow.tag h.oB k e
    obtain ⟨_, cur2, hc2⟩ := h.oK.tg k e2; rw [hc] at hc2; cases hc2
  · obtain ⟨cur, hc⟩ := Ow.tag h.oU k e
    obtain ⟨_, cur2, hc2⟩ := h.oK.tg k e2; rw [hc] at hc2; cases hc2
theorem FrD.of_below (h : Below w.heap.size w w') : FrD w w' q vB vU := ⟨h.os, h.tape, h.output, h.size, fun k hk _ _ _ => h.block k hk⟩
theorem FrD.trans {vB2 vU2 : Value} (h : FrD w w' q vB vU) (k : FrD w' w2 q vB2 vU2) (h1 : Nw w vB vB2) (h2 : Nw w vU vU2) : FrD w w2 q vB vU :=
  ⟨k.os.trans h.os, k.tape.trans h.tape, k.output.trans h.output, Nat.le_trans h.size k.size, fun i hi hq hb hu => (k.block i (Nat.lt_of_lt_of_le hi h.size) hq (fun e => by
    rcases h1 i e with h | h
    · exact hb h
    · omega) (fun e => by
    rcases h2 i e with h | h
    · exact hu h
    · omega)).trans (h.block i hi hq hb hu)⟩
theorem FrD.below {w0 : World} {B0 : Nat} (h : FrD w w' q vB vU) (hb : Below B0 w0 w) (hB : B0 ≤ w.heap.size) (hd : Dx w B q s Bs Us Bk vB vU vK) (h0 : B0 ≤ B) : Below B0 w0 w' :=
  hb.trans ⟨h.os, h.tape, h.output, h.size, fun k hk => h.block k (by omega) (by have := hd.hq; omega) (fun e => by have := (Ow.lt hd.oB k e).1; omega) (fun e => by have := (Ow.lt hd.oU k e).1; omega)⟩
theorem FrD.blk {p t : Nat} {c : Array Value} (h : FrD w w' q vB vU) (hd : Dx w B q s Bs Us Bk vB vU vK) (k : Blk w p c t) (ht : t ≠ 107 ∧ t ≠ 9 ∧ t ≠ 4) : Blk w' p c t := by
  have hp : w.heap[p]? = some (.cells c t (0, 0)) := k
  refine (h.block p k.lt (fun e => ?_) (fun e => ?_) (fun e => ?_)).trans k
  · have := hd.blk; rw [← e] at this
    have h2 : w.heap[p]? = some (.cells #[.int .i64 (s : Int), vB, vU, vK] 107 (0, 0)) := this
    rw [hp] at h2; simp only [Option.some.injEq, Obj.cells.injEq] at h2; exact ht.1 h2.2.1
  · obtain ⟨cur, hc⟩ := Ow.tag hd.oB p e
    rw [hp] at hc; simp only [Option.some.injEq, Obj.cells.injEq] at hc; exact ht.2.1 hc.2.1
  · obtain ⟨cur, hc⟩ := Ow.tag hd.oU p e
    rw [hp] at hc; simp only [Option.some.injEq, Obj.cells.injEq] at hc; exact ht.2.2 hc.2.1
/-- a page beside the document's -/
theorem PgS.frD {p b : Nat} {B' s' : Nat} {st : PS} (h : PgS w B' p b s' st) (hf : FrD w w' q vB vU) (hd : Dx w B q s Bs Us Bk vB vU vK) : PgS w' B' p b s' st := by
  have ha := Pg.at_ h
  refine ⟨⟨ha.hp, hf.blk hd ha.blk (by decide), ⟨ha.own.1, ?_⟩, ha.ok, ha.len⟩, Pg.inv h⟩
  obtain ⟨es, clock, hm, r⟩ := ha.own.2
  have hne : ∀ k, (vB.ownBlock = some k ∨ vU.ownBlock = some k ∨ vK.ownBlock = some k ∨ k = q) → k ≠ b := fun k hk e => by
    obtain ⟨cur, t, hc, _⟩ := hd.tags k hk
    rw [e, hm] at hc; cases hc
  exact ⟨es, clock, (hf.block b ha.blt (fun e => hne q (.inr (.inr (.inr rfl))) e.symm) (fun e => hne b (.inl e) rfl) (fun e => hne b (.inr (.inl e)) rfl)).trans hm, r⟩
/-- the document's page beside a page -/
theorem Dx.fr {p b : Nat} {B' s' : Nat} {st : PS} (h : Dx w B q s Bs Us Bk vB vU vK) (hf : Fr w w' p b) (hp : PgS w B' p b s' st) : Dx w' B q s Bs Us Bk vB vU vK := by
  have ha := Pg.at_ hp
  have hb : w.heap[p]? = some (.cells (pgv (s' : Int) ((st.1 * s' : Nat) : Int) (hdF st.2.2.2) b st.2.2.1).toArray 102 (0, 0)) := ha.blk
  have hne : ∀ k, (vB.ownBlock = some k ∨ vU.ownBlock = some k ∨ vK.ownBlock = some k ∨ k = q) → k < w.heap.size ∧ k ≠ p ∧ k ≠ b := fun k hk => by
    obtain ⟨cur, t, hc, ht⟩ := h.tags k hk
    refine ⟨(Array.getElem?_eq_some_iff.1 hc).1, fun e => ?_, fun e => ?_⟩
    · rw [e, hb] at hc; simp only [Option.some.injEq, Obj.cells.injEq] at hc; exact ht hc.2.1.symm
    · obtain ⟨es, clock, hm, _⟩ := ha.own.2
      rw [e, hm] at hc; cases hc
  have hs : ∀ k, (vB.ownBlock = some k ∨ vU.ownBlock = some k ∨ vK.ownBlock = some k ∨ k = q) → w'.heap[k]? = w.heap[k]? := fun k hk => by
    obtain ⟨h1, h2, h3⟩ := hne k hk
    exact hf.block k h1 h2 h3
  have hrow : ∀ {e : TypeId} {α : Type} {enc : α → Value} {v : Value} {n : Nat} {xs : List α}, Ow enc w B e v n xs → (∀ k, v.ownBlock = some k → w'.heap[k]? = w.heap[k]?) → Ow enc w' B e v n xs := fun o hk => by
    refine ⟨o.1, ?_⟩
    rcases o.2 with h1 | ⟨g, cap, cur, e, hB, hg, rest⟩
    · exact .inl h1
    · exact .inr ⟨g, cap, cur, e, hB, (hk g (by rw [e]; rfl)).trans hg, rest⟩
  exact ⟨h.hq, (hs q (.inr (.inr (.inr rfl)))).trans h.blk, hrow h.oB (fun k e => hs k (.inl e)), hrow h.oU (fun k e => hs k (.inr (.inl e))), h.oK.keep hf.size (fun k e => hs k (.inr (.inr (.inl e))))⟩
end
theorem ow_at {α : Type} {enc : α → Value} {W : World} {B e n : Nat} {v : Value} {xs : List α} (h : Ow enc W B e v n xs) {k : Nat} {x : α} (hx : xs[k]? = some x) : ∃ g c, v = .slice (some ⟨g, 0, none⟩) n c ∧ g < W.heap.size ∧ W.cell? ⟨g, k, none⟩ = some (enc x) ∧ W.frozen? ⟨g, k, none⟩ = false := by
  have hl : xs.length = n := by simpa using h.1
  have hk : k < n := by have := (List.getElem?_eq_some_iff.1 hx).1; omega
  rcases h.2 with ⟨rfl, h2⟩ | ⟨g, cap, cur, rfl, hB, hg, hn, hm, hs, ht⟩
  · omega
  · have hO : W.ownsRow B e 1 (.slice (some ⟨g, 0, none⟩) n cap) n (xs.map enc) := ⟨h.1, .inr ⟨g, cap, cur, rfl, hB, hg, hn, hm, hs, ht⟩⟩
    refine ⟨g, cap, rfl, (Array.getElem?_eq_some_iff.1 hg).1, ?_, hO.frozenAt k⟩
    rw [World.ownsRow.cellAt hO k (by omega), List.getElem?_map, hx]; rfl
theorem getB {l : List Bool} {k : Nat} (h : k < l.length) : l[k]? = some (l.getD k false) := by rw [List.getElem?_eq_getElem h, List.getD_eq_getElem?_getD, List.getElem?_eq_getElem h]; rfl
theorem getS {l : List ByteArray} {k : Nat} (h : k < l.length) : l[k]? = some (l.getD k ByteArray.empty) := by rw [List.getElem?_eq_getElem h, List.getD_eq_getElem?_getD, List.getElem?_eq_getElem h]; rfl
theorem built52 (s : Int) : Try.prog.built 107 [(0, .int .i64 s)] = some #[.int .i64 s, .slice none 0 0, .slice none 0 0, .slice none 0 0] := by kernel_rfl
set_option maxRecDepth 100000 in
set_option maxHeartbeats 4000000 in
theorem dnew_no (x : Int) (w : World) (hs : x < 2 ∨ 4096 < x) : Calls Try.prog 45 #[.int .i64 x] w fun e w' => e = .returned (.tuple #[.pointer none, .int .i64 1]) ∧ w = w' := by
  by_cases h1 : x < 2
  · have d1 : decide (x < 2) = true := decide_eq_true h1
    clear h1 hs
    go_enter Try.func45, Try.ntmps45
    go_wp2
    go_ret2
    exact ⟨rfl, rfl⟩
  · have d1 : decide (x < 2) = false := decide_eq_false h1
    have d2 : decide (4096 < x) = true := decide_eq_true (by omega)
    clear h1 hs
    go_enter Try.func45, Try.ntmps45
    go_wp2
    go_ret2
    exact ⟨rfl, rfl⟩
set_option maxRecDepth 100000 in
set_option maxHeartbeats 4000000 in
theorem dnew_any (s : Nat) (w : World) (h1 : 2 ≤ s) (h2 : s ≤ 4096) : Calls Try.prog 45 #[.int .i64 (s : Int)] w fun e w' => e = .returned (.tuple #[.pointer (some ⟨w.heap.size, 0, none⟩), .int .i64 0]) ∧ Dx w' w.heap.size w.heap.size s [] [] [] (.slice none 0 0) (.slice none 0 0) (.slice none 0 0) ∧ Below w.heap.size w w' := by
  have d1 : decide ((s : Int) < 2) = false := decide_eq_false (by omega)
  have d2 : decide ((4096 : Int) < (s : Int)) = false := decide_eq_false (by omega)
  have hb : Below w.heap.size w (w.alloc (.cells #[.int .i64 (s : Int), .slice none 0 0, .slice none 0 0, .slice none 0 0] 107)) := (Below.refl _ _).alloc (Nat.le_refl _) _
  have HD : Hid (Dx (w.alloc (.cells #[.int .i64 (s : Int), .slice none 0 0, .slice none 0 0, .slice none 0 0] 107)) w.heap.size w.heap.size s [] [] [] (.slice none 0 0) (.slice none 0 0) (.slice none 0 0)) :=
    ⟨Nat.le_refl _, Blk.new _ _ _, Ow.none _ _ _, Ow.none _ _ _, Ks.of (Ow.none _ _ _)⟩
  have HB := Lib.hid hb
  have HBT := Lib.hid (built52 (s : Int))
  clear hb
  go_enter Try.func45, Try.ntmps45
  go_wp2_with (first
    | (refine wpl_build rfl 107 _ rfl _ ?_ ?_; exact HBT.out)
    | go_in)
  go_ret2
  exact ⟨rfl, HD.out, HB.out⟩
/-- where a slot's place is, and whether it is used -/
def plcK (s : Nat) (x : Int) (st : PS) : Nat := if isC st.2.1 x then x.toNat / s else 0
set_option maxRecDepth 100000 in
set_option maxHeartbeats 4000000 in
theorem place_any (B q s : Nat) (st : PS) (Bs : List ByteArray) (Us : List Bool) (Bk : List Nat) (vB vU vK : Value) (x : Int) (w : World) (h : Dx w B q s Bs Us Bk vB vU vK) (hr : Rel s st Bs Us Bk) (hi : InvS s st) (h0 : 0 ≤ x) (h1 : x ≤ 65535) : Calls Try.prog 65 #[.pointer (some ⟨q, 0, none⟩), .int .u16 x] w fun e w' => e = .returned (.tuple #[.int .i64 (plcK s x st), .bool (isC st.2.1 x)]) ∧ w = w' := by
  have hs := Inv.s2 hi
  obtain ⟨X, rfl⟩ : ∃ X : Nat, x = (X : Int) := ⟨x.toNat, by omega⟩
  obtain ⟨K, hK⟩ : ∃ K : Nat, K = X / s := ⟨_, rfl⟩
  have hq1 : Int.tdiv (X : Int) (s : Int) = (K : Int) := by rw [Int.tdiv_eq_ediv_of_nonneg (by omega), hK, Int.natCast_ediv]
  have hKX : K ≤ X := by rw [hK]; exact Nat.div_le_self _ _
  have hq2 : IntKind.i64.wrap (K : Int) = (K : Int) := IntWalk.i64_in _ (by omega)
  have hz1 : ¬ (s = 0) := by omega
  have hz2 : (s == 0) = false := by rw [beq_eq_false_iff_ne]; omega
  have hz3 : ((s : Int) == 0) = false := by rw [beq_eq_false_iff_ne]; omega
  obtain ⟨M, hM⟩ : ∃ M : Nat, K * s = M := ⟨_, rfl⟩
  have hMX : M ≤ X := by rw [← hM, hK]; exact Nat.div_mul_le_self X s
  have hm1 : (K : Int) * (s : Int) = (M : Int) := by rw [← hM]; simp
  have hm2 : IntKind.i64.wrap (M : Int) = (M : Int) := IntWalk.i64_in _ (by omega)
  have c0 := h.blk.cell 0
  have c2 := h.blk.cell 2
  simp only [List.getElem?_toArray, List.getElem?_cons_zero, List.getElem?_cons_succ] at c0 c2
  have HPK : Hid (plcK s (X : Int) st = if isC st.2.1 (X : Int) then K else 0) := by show _ = _; unfold plcK; rw [Int.toNat_natCast, hK]
  by_cases e1 : M = X
  · have b1 : ((M : Int) != (X : Int)) = false := by rw [e1]; simp
    have b1' : (M != X) = false := by rw [e1]; simp
    by_cases e2 : K < Us.length
    · have b2 : decide ((Us.length : Int) ≤ (K : Int)) = false := decide_eq_false (by omega)
      have b2' : decide (Us.length ≤ K) = false := decide_eq_false (by omega)
      have hu := hr.us K (by rw [← hr.um]; exact e2)
      rw [hM, e1] at hu
      obtain ⟨g, c, rfl, _, hc, _⟩ := ow_at h.oU (getB e2)
      rw [hu] at hc
      have hc' : w.cell? ⟨g, K, none⟩ = some (.bool (isC st.2.1 (X : Int))) := hc
      have i5 := idx50 g Us.length c K (K : Int) rfl e2
      have HE := Lib.hid e1
      have HU := Lib.hid hu
      clear h hr hi hc hu e1 e2 hK hM
      generalize isC st.2.1 (X : Int) = ic at *
      cases ic with
      | true =>
        go_enter Try.func65, Try.ntmps65
        go_wp2
        go_ret2
        exact ⟨by rw [HPK.out]; rfl, rfl⟩
      | false =>
        go_enter Try.func65, Try.ntmps65
        go_wp2
        go_ret2
        exact ⟨by rw [HPK.out]; rfl, rfl⟩
    · have b2 : decide ((Us.length : Int) ≤ (K : Int)) = true := decide_eq_true (by omega)
      have b2' : decide (Us.length ≤ K) = true := decide_eq_true (by omega)
      have hn : isC st.2.1 (X : Int) = false := isC_no (fun hx => by
        obtain ⟨i, hi2, e⟩ := Inv.cm hi _ hx
        have e3 : K * s = i * s := by omega
        have := Nat.eq_of_mul_eq_mul_right (by omega) e3
        have := hr.um
        omega)
      have HNN := Lib.hid hn
      obtain ⟨A2, c2', hv, _⟩ := Ow.sl h.oU
      rw [hv] at c2
      clear h hr hi hn hv e1 e2 hK hM
      go_enter Try.func65, Try.ntmps65
      go_wp2
      go_ret2
      exact ⟨by rw [HPK.out, HNN.out]; rfl, rfl⟩
  · have b1 : ((M : Int) != (X : Int)) = true := by rw [bne_iff_ne]; omega
    have b1' : (M != X) = true := by rw [bne_iff_ne]; exact e1
    have hn : isC st.2.1 (X : Int) = false := isC_no (fun hx => by
        obtain ⟨i, hi2, e⟩ := Inv.cm hi _ hx
        have e3 : X = i * s := by omega
        have e4 : K = i := by rw [hK, e3]; exact Nat.mul_div_cancel i (by omega)
        rw [e4] at hM; omega)
    have HNN := Lib.hid hn
    clear h hr hi hn e1 hK hM
    go_enter Try.func65, Try.ntmps65
    go_wp2
    go_ret2
    exact ⟨by rw [HPK.out, HNN.out]; rfl, rfl⟩
end Go.Proofs.Ytbnbhhmgfogjeaa
