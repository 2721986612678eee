/- GD, GE, GF, GG, GH, GI, GJ in one. -/
import Derived.Test.YtbncpfkoeahhpaaJZ0
import Derived.Deep.RegionHeld3
import Derived.Deep.AppendLies
import Derived.StillTailTactics
import Derived.WideKeyEntry
/- What the calls make of an arena. -/
namespace Go.Proofs.Ytbncpfkoeahhpaa
open Go.ChangeShapes Go.WideShapes Go.ChangeAt Go.RowKit Go.Maps
set_option linter.unusedVariables false
set_option linter.unusedSimpArgs false

/-- the first page that may have room; the pages; how often each slot was given -/
abbrev AS := Nat × List PS × List gn.Ct
def fullP (s : Nat) (P : PS) : Bool := decide (P.2.1.length = 4096 / s)
def newP : PS := (0, [], List.replicate 4096 0, [])
def lowL (s low : Nat) (L : List PS) : Nat := low + ((L.drop low).takeWhile (fullP s)).length
theorem lowL_step {s low : Nat} {L : List PS} (h : low < L.length) (hf : fullP s L[low] = true) : lowL s (low + 1) L = lowL s low L := by
  unfold lowL
  rw [List.drop_eq_getElem_cons h, List.takeWhile_cons, if_pos hf, List.length_cons]
  omega
theorem lowL_stop {s low : Nat} {L : List PS} (h : low < L.length) (hf : fullP s L[low] = false) : lowL s low L = low := by
  unfold lowL
  rw [List.drop_eq_getElem_cons h, List.takeWhile_cons, if_neg (by rw [hf]; decide)]
  rfl
theorem lowL_end {s low : Nat} {L : List PS} (h : L.length ≤ low) : lowL s low L = low := by
  unfold lowL
  rw [List.drop_eq_nil_of_le h]
  rfl
theorem lowL_ge {s low : Nat} {L : List PS} : low ≤ lowL s low L := by unfold lowL; omega
theorem takeWhile_le {α : Type} (p : α → Bool) : ∀ l : List α, (l.takeWhile p).length ≤ l.length
  | [] => Nat.le_refl _
  | x :: l => by
    rw [List.takeWhile_cons]
    split
    · have := takeWhile_le p l; simp; omega
    · simp
theorem lowL_le {s low : Nat} {L : List PS} (h : low ≤ L.length) : lowL s low L ≤ L.length := by
  unfold lowL
  have h1 := takeWhile_le (fullP s) (L.drop low)
  rw [List.length_drop] at h1
  omega
/-- of the first that may have room on: those ahead are full, it has room, or there is none -/
theorem lowL_is (s : Nat) (L : List PS) : ∀ (n low : Nat), n = L.length - low → low ≤ L.length → (∀ i, low ≤ i → i < lowL s low L → ∃ P, L[i]? = some P ∧ fullP s P = true) ∧ (∀ P, L[lowL s low L]? = some P → fullP s P = false)
  | 0, low, hn, hl => by
    have e : lowL s low L = low := lowL_end (by omega)
    rw [e]
    refine ⟨fun i h1 h2 => by omega, fun P hP => ?_⟩
    have := (List.getElem?_eq_some_iff.1 hP).1
    omega
  | n + 1, low, hn, hl => by
    have hlt : low < L.length := by omega
    by_cases hf : fullP s L[low] = true
    · rw [← lowL_step hlt hf]
      obtain ⟨h1, h2⟩ := lowL_is s L n (low + 1) (by omega) (by omega)
      refine ⟨fun i a b => ?_, h2⟩
      by_cases e : i = low
      · subst e; exact ⟨_, List.getElem?_eq_getElem hlt, hf⟩
      · exact h1 i (by omega) b
    · have hf : fullP s L[low] = false := by simpa using hf
      rw [lowL_stop hlt hf]
      refine ⟨fun i h1 h2 => by omega, fun P hP => ?_⟩
      rw [List.getElem?_eq_getElem hlt] at hP
      cases hP
      exact hf
/-- a place, a handle -/
def zOf (i : Nat) (o : Nat) : Int := (i : Int) * 65536 + (o : Int)
def putA (s : Nat) (l : Nat) (L : List PS) (G : List gn.Ct) : AS × Int × Int :=
  ((l, L.set l (alS s (L.getD l newP)), gn.putC G (zOf l (nextO s (L.getD l newP))) ((gn.ofC G (zOf l (nextO s (L.getD l newP))) + 1) % 4294967296)),
    zOf l (nextO s (L.getD l newP)) * 4294967296 + (gn.ofC G (zOf l (nextO s (L.getD l newP))) + 1) % 4294967296, 0)
def alA (s : Nat) (st : AS) : AS × Int × Int :=
  if lowL s st.1 st.2.1 < st.2.1.length then putA s (lowL s st.1 st.2.1) st.2.1 st.2.2
  else if st.2.1.length = 4096 then ((lowL s st.1 st.2.1, st.2.1, st.2.2), 0, 41)
  else putA s (lowL s st.1 st.2.1) (st.2.1 ++ [newP]) st.2.2
/-- the page, the offset, the place, the generation of a handle -/
def hP (h : Int) : Nat := (h / 281474976710656).toNat
def hO (h : Int) : Int := h / 4294967296 % 65536
def hZ (h : Int) : Int := h / 4294967296
def hG (h : Int) : Int := h % 4294967296
def isA (st : AS) (h : Int) : Bool := decide (hP h < st.2.1.length) && (isC (st.2.1.getD (hP h) newP).2.1 (hO h) && decide (gn.ofC st.2.2 (hZ h) = hG h))
def frA (h : Int) (st : AS) : AS := if isA st h then (min st.1 (hP h), st.2.1.set (hP h) (frS (hO h) (st.2.1.getD (hP h) newP)), st.2.2) else st
def frAE (h : Int) (st : AS) : Int := if isA st h then 0 else 5
def wrA (s : Nat) (h : Int) (S : ByteArray) (st : AS) : AS := if isA st h then (st.1, st.2.1.set (hP h) (wrS s (hO h) S (st.2.1.getD (hP h) newP)), st.2.2) else st
def wrAE (s : Nat) (h : Int) (S : ByteArray) (st : AS) : Int := if isA st h then (if S.size ≤ s then 0 else 40) else 5
def rdA (s : Nat) (h : Int) (st : AS) : ByteArray := if isA st h then rdT s (hO h) (st.2.1.getD (hP h) newP) else ByteArray.empty
def rdAE (h : Int) (st : AS) : Int := if isA st h then 0 else 5
def usA (st : AS) : Nat := (st.2.1.map (fun P => P.2.1.length)).sum
/-- an arena in memory, and the blocks that are its -/
def AR (W : World) (B a s : Nat) (st : AS) (S : Nat → Prop) : Prop :=
  ∃ g v Ps, Ar W B a g v st.1 s Ps st.2.2 ∧ Ps.map (fun x => x.2.2) = st.2.1 ∧ S = ArSet a g v Ps ∧ st.1 ≤ st.2.1.length ∧ st.2.1.length ≤ 4096
section
variable {W W' w w' : World} {B a s : Nat} {st st' : AS} {S S' : Nat → Prop}
theorem AR.later (h : AR W B a s st S) (hb : Below W.heap.size W W') : AR W' B a s st S := by
  obtain ⟨g, v, Ps, h1, h2⟩ := h
  exact ⟨g, v, Ps, h1.later hb, h2⟩
theorem AR.base {B' : Nat} (h : AR W B a s st S) (hb : B' ≤ B) : AR W B' a s st S := by
  obtain ⟨g, v, Ps, h1, h2⟩ := h
  exact ⟨g, v, Ps, h1.base hb, h2⟩
theorem AR.lt (h : AR W B a s st S) : ∀ k, S k → B ≤ k ∧ k < W.heap.size := by
  obtain ⟨g, v, Ps, h1, _, rfl, _⟩ := h
  exact h1.lt
theorem AR.fr {R : Nat → Prop} (h : AR W B a s st S) (hf : FrS W W' R) (hd : ∀ k, S k → ¬ R k) : AR W' B a s st S := by
  obtain ⟨g, v, Ps, h1, h2, rfl, h3⟩ := h
  exact ⟨g, v, Ps, h1.fr hf hd, h2, rfl, h3⟩
/-- what each of its blocks is -/
theorem AR.tags (h : AR W B a s st S) : ∀ k, S k → (∃ c t, W.heap[k]? = some (.cells c t (0, 0)) ∧ (t = 93 ∨ t = 89 ∨ t = 128)) ∨ ∃ es z, W.heap[k]? = some (.map es z) := by
  obtain ⟨g, v, Ps, h1, _, rfl, _⟩ := h
  intro k hk
  rcases hk with rfl | rfl | e | ⟨x, hx, rfl | rfl⟩
  · obtain ⟨c, hc⟩ := h1.ta; exact .inl ⟨c, 93, hc, .inl rfl⟩
  · exact .inr h1.tg
  · obtain ⟨c, hc⟩ := h1.tv e; exact .inl ⟨c, 89, hc, .inr (.inl rfl)⟩
  · obtain ⟨c, hc⟩ := pgs_tp (h1.pgs x hx); exact .inl ⟨c, 128, hc, .inr (.inr rfl)⟩
  · exact .inr (pgs_tb (h1.pgs x hx))
/-- a block of another type is none of these -/
theorem AR.not (h : AR W B a s st S) {q t : Nat} {c : Array Value} (hq : W.heap[q]? = some (.cells c t (0, 0))) (ht : t ≠ 93 ∧ t ≠ 89 ∧ t ≠ 128) : ¬ S q := fun e => by
  rcases h.tags q e with ⟨c2, t2, h2, h3⟩ | ⟨es, z, h2⟩
  · rw [hq] at h2; cases h2
    rcases h3 with h3 | h3 | h3
    · exact ht.1 h3
    · exact ht.2.1 h3
    · exact ht.2.2 h3
  · rw [hq] at h2; cases h2
theorem AR.ow {α : Type} {enc : α → Value} {B' e n : Nat} {v : Value} {xs : List α} (h : AR W B a s st S) (hf : FrS W W' S) (o : Ow enc W B' e v n xs) (ht : e ≠ 93 ∧ e ≠ 89 ∧ e ≠ 128) : Ow enc W' B' e v n xs :=
  ow_keep o (fun k ek => by
    obtain ⟨c, hc⟩ := Ow.tag o k ek
    exact hf.block k (Ow.lt o k ek).2 (h.not hc ht))
theorem AR.blk {q t : Nat} {c : Array Value} (h : AR W B a s st S) (hf : FrS W W' S) (k : Blk W q c t) (ht : t ≠ 93 ∧ t ≠ 89 ∧ t ≠ 128) : Blk W' q c t := hf.blk k (h.not k ht)
theorem AR.frBelow {w0 : World} {B0 : Nat} (h : AR W B a s st S) (hf : FrS W W' S) (hb : Below B0 w0 W) (h0 : B0 ≤ B) (h1 : B0 ≤ W.heap.size) : Below B0 w0 W' := hf.below hb h1 (fun i hi => Nat.le_trans h0 (h.lt i hi).1)
end
/-- behind a call that turns it -/
def AEnd (B a s : Nat) (st' : AS) (S : Nat → Prop) (val : Value) (w : World) (e : Ending) (w' : World) : Prop :=
  e = .returned val ∧ ∃ S', AR w' B a s st' S' ∧ (∀ k, S' k → S k ∨ w.heap.size ≤ k) ∧ FrS w w' S
end Go.Proofs.Ytbncpfkoeahhpaa

/- New; the first page that has room, or one more. -/
namespace Go.Proofs.Ytbncpfkoeahhpaa
open Go.ChangeShapes Go.WideShapes Go.ChangeAt Go.RowKit Go.Maps
set_option linter.unusedVariables false
set_option linter.unusedSimpArgs false

set_option maxRecDepth 100000 in
set_option maxHeartbeats 4000000 in
theorem arnew_no (x : Int) (w : World) (hx : x < 2 ∨ 4096 < x) : Calls Try.prog 41 #[.int .i64 x] w fun e w' => e = .returned (.tuple #[.pointer none, .int .i64 1]) ∧ w = w' := by
  have HX := Lib.hid hx
  clear hx
  go_enter Try.func41, Try.ntmps41
  go_wp2_with fail
  refine (new_no x w HX.out).mono ?_
  rintro e w1 ⟨rfl, rfl⟩
  go_wp2
  go_ret2
  exact ⟨rfl, rfl⟩
theorem built71 (s : Int) (r : Nat) : Try.prog.built 93 [(0, .int .i64 s), (3, .map (some r))] = some #[.int .i64 s, .slice none 0 0, .int .i64 0, .map (some r)] := by kernel_rfl
def NewA (s : Nat) (w : World) (e : Ending) (w' : World) : Prop := ∃ a S, e = .returned (.tuple #[.pointer (some ⟨a, 0, none⟩), .int .i64 0]) ∧ AR w' w.heap.size a s (0, [], []) S ∧ Below w.heap.size w w'
set_option maxRecDepth 100000 in
set_option maxHeartbeats 4000000 in
theorem arnew_any (s : Nat) (w : World) (h1 : 2 ≤ s) (h2 : s ≤ 4096) : Calls Try.prog 41 #[.int .i64 (s : Int)] w (NewA s w) := by
  have hmm := @run_makeMap Try.prog
  go_enter Try.func41, Try.ntmps41
  go_wp2_with fail
  refine (pg_new s w h1 h2).mono ?_
  rintro e w1 ⟨rfl, _, hb⟩
  have HB := Lib.hid hb
  clear hb
  have hbt := built71 (s : Int) w1.heap.size
  have hb1 : Below w1.heap.size w1 (w1.alloc (.map #[] 0)) := (Below.refl _ _).alloc (Nat.le_refl _) _
  have HB2 : Hid (Below w1.heap.size w1 ((w1.alloc (.map #[] 0)).alloc (.cells #[.int .i64 (s : Int), .slice none 0 0, .int .i64 0, .map (some w1.heap.size)] 93))) := hb1.alloc hb1.size _
  have HO : Hid (AR ((w1.alloc (.map #[] 0)).alloc (.cells #[.int .i64 (s : Int), .slice none 0 0, .int .i64 0, .map (some w1.heap.size)] 93)) w1.heap.size (w1.heap.size + 1) s (0, [], []) (ArSet (w1.heap.size + 1) w1.heap.size (.slice none 0 0) [])) :=
    ⟨w1.heap.size, .slice none 0 0, [], ⟨Nat.le_succ _, Blk.new2 _ _ _ (by simp), Ow.none _ _ _, ⟨Nat.le_refl _, (World.ownsMap_made w1 Try.prog 96 gn.R3).alloc _⟩, gn.Ok.nil, (fun x hx => by cases hx), List.Pairwise.nil, (fun x hx => by cases hx)⟩, rfl, rfl, Nat.le_refl _, by simp⟩
  clear hb1
  go_wp2_with (first
    | (refine wpl_build rfl 93 _ rfl _ hbt ?_)
    | fail)
  go_ret2
  exact ⟨_, _, rfl, HO.out.base HB.out.size, stepB HB.out HB2.out⟩
end Go.Proofs.Ytbncpfkoeahhpaa

/- The first page that has room, or one more. -/
namespace Go.Proofs.Ytbncpfkoeahhpaa
open Go.ChangeShapes Go.WideShapes Go.ChangeAt Go.RowKit Go.Maps
set_option linter.unusedVariables false
set_option linter.unusedSimpArgs false

section
variable {W : World} {B a g low s : Nat} {v : Value} {Ps : List Pe} {G : List gn.Ct}
theorem Ar.c (h : Ar W B a g v low s Ps G) : W.cell? ⟨a, 0, none⟩ = some (.int .i64 (s : Int)) ∧ W.cell? ⟨a, 1, none⟩ = some v ∧ W.cell? ⟨a, 2, none⟩ = some (.int .i64 (low : Int)) ∧ W.cell? ⟨a, 3, none⟩ = some (.map (some g)) := ⟨h.blk.cell 0, h.blk.cell 1, h.blk.cell 2, h.blk.cell 3⟩
theorem idx68 (g m c k : Nat) (i : Int) (hi : i = (k : Int)) (h : k < m) (W : World) : (Instr.indexAt 90 (.slice (some ⟨g, 0, none⟩) m c) (.int .i64 i)).run Try.prog W = .ok (.pointer (some ⟨g, k, none⟩)) W := by
  subst hi
  have h1 : (0 : Int) ≤ (k : Int) ∧ (k : Int) < (m : Int) := by omega
  go_simp
theorem Ar.at_ (h : Ar W B a g v low s Ps G) {i : Nat} (hi : i < Ps.length) : ∃ gr c, v = .slice (some ⟨gr, 0, none⟩) Ps.length c ∧ gr < W.heap.size ∧ W.cell? ⟨gr, i, none⟩ = some (.pointer (some ⟨(Ps[i]).1, 0, none⟩)) := by
  obtain ⟨gr, c, e, h1, h2, _⟩ := ow_at h.row (k := i) (x := (Ps[i]).1) (by rw [List.getElem?_map, List.getElem?_eq_getElem hi]; rfl)
  exact ⟨gr, c, e, h1, h2⟩
abbrev SR (w : World) (a : Nat) (v : Value) (l gr p : Nat) (W : World) : Prop := Below w.heap.size w W ∧ W.cell? ⟨a, 1, none⟩ = some v ∧ W.cell? ⟨a, 2, none⟩ = some (.int .i64 (l : Int)) ∧ W.cell? ⟨gr, l, none⟩ = some (.pointer (some ⟨p, 0, none⟩))
theorem SR.later {w W W' : World} {a l gr p : Nat} {v : Value} (h : SR w a v l gr p W) (hb : Below W.heap.size W W') : SR w a v l gr p W' :=
  ⟨stepB h.1 hb, (hb.cell (p := ⟨a, 1, none⟩) (lt_of_cell h.2.1)).trans h.2.1, (hb.cell (p := ⟨a, 2, none⟩) (lt_of_cell h.2.2.1)).trans h.2.2.1, (hb.cell (p := ⟨gr, l, none⟩) (lt_of_cell h.2.2.2)).trans h.2.2.2⟩
def lowOf (a : Nat) (W : World) : Nat := match W.cell? ⟨a, 2, none⟩ with | some (.int _ n) => n.toNat | _ => 0
theorem lowOf_is {a l : Nat} {W : World} (h : W.cell? ⟨a, 2, none⟩ = some (.int .i64 (l : Int))) : lowOf a W = l := by unfold lowOf; rw [h]; simp
theorem Ar.lowOf (h : Ar W B a g v low s Ps G) : lowOf a W = low := lowOf_is h.c.2.2.1
end
/-- what is there behind room -/
def RoomEnd (B a g low s : Nat) (v : Value) (Ps : List Pe) (G : List gn.Ct) (w : World) (e : Ending) (w' : World) : Prop :=
  ∃ r v' Ps', e = .returned (.bool r) ∧ Ar w' B a g v' (lowL s low (Ps.map (fun x => x.2.2))) s Ps' G ∧ FrS w w' (ArSet a g v Ps) ∧ Nw w v v' ∧
    ((r = true ∧ lowL s low (Ps.map (fun x => x.2.2)) < Ps.length ∧ Ps' = Ps) ∨ (r = false ∧ lowL s low (Ps.map (fun x => x.2.2)) = Ps.length ∧ Ps.length = 4096 ∧ Ps' = Ps) ∨
      (r = true ∧ lowL s low (Ps.map (fun x => x.2.2)) = Ps.length ∧ Ps.length < 4096 ∧ ∃ p b, Ps' = Ps ++ [(p, b, newP)] ∧ w.heap.size ≤ p ∧ w.heap.size ≤ b))
set_option maxRecDepth 100000 in
set_option maxHeartbeats 8000000 in
theorem room_any4 (B a g low s : Nat) (v : Value) (Ps : List Pe) (G : List gn.Ct) (w : World) (h : Ar w B a g v low s Ps G) (h2 : 2 ≤ s) (h4 : s ≤ 4096) (hl : low ≤ Ps.length) (hn : Ps.length ≤ 4096) : Calls Try.prog 45 #[.pointer (some ⟨a, 0, none⟩)] w (RoomEnd B a g low s v Ps G w) := by
  obtain ⟨L, hL⟩ : ∃ L, Ps.map (fun x => x.2.2) = L := ⟨_, rfl⟩
  have HL := Lib.hid hL
  have HLL : Hid (L.length = Ps.length) := by show _ = _; rw [← hL, List.length_map]
  have H := Lib.hid h
  clear hL
  go_enter Try.func45, Try.ntmps45
  go_wp2
  go_loopw [] (fun wr => ∃ l : Nat, l ≤ Ps.length ∧ Ar wr B a g v l s Ps G ∧ lowL s l L = lowL s low L ∧ FrS w wr (ArSet a g v Ps)) (fun wr => Ps.length - lowOf a wr)
  case atStart => exact ⟨low, hl, h, rfl, FrS.of_below (Below.refl _ _)⟩
  case round =>
    obtain ⟨l, hl2, hA, he, hf⟩ := hrel
    obtain ⟨w1, rfl⟩ : ∃ w1 : World, w1 = wr := ⟨_, rfl⟩
    have HA := Lib.hid hA
    have HE := Lib.hid he
    have HF := Lib.hid hf
    clear h he hf hl
    by_cases hlt : l < Ps.length
    · have d1 : decide ((l : Int) < (Ps.length : Int)) = true := decide_eq_true (by omega)
      have d1' : decide (l < Ps.length) = true := decide_eq_true (by omega)
      obtain ⟨gr, c, hv, hgr, hc⟩ := hA.at_ hlt
      subst hv
      have i5 := idx68 gr Ps.length c l (l : Int) rfl hlt
      have K0 : Hid (SR w1 a (.slice (some ⟨gr, 0, none⟩) Ps.length c) l gr (Ps[l]).1 w1) := ⟨Below.refl _ _, hA.c.2.1, hA.c.2.2.1, hc⟩
      have HP := Lib.hid (hA.pgs _ (List.getElem_mem hlt))
      have hPL : L[l]'(by rw [HLL.out]; exact hlt) = (Ps[l]).2.2 := by
        have h6 : L = Ps.map (fun x => x.2.2) := HL.out.symm
        subst h6
        simp
      obtain ⟨pp, hpp⟩ : ∃ pp, (Ps[l]).1 = pp := ⟨_, rfl⟩
      rw [hpp] at K0 HP
      have HPP := Lib.hid hpp
      have HPL := Lib.hid hPL
      by_cases hfl : fullP s (Ps[l]).2.2 = true
      · have hfull : (Ps[l]).2.2.2.1.length = 4096 / s := of_decide_eq_true hfl
        have KR : Hid (∀ W, SR w1 a (.slice (some ⟨gr, 0, none⟩) Ps.length c) l gr pp W → Calls Try.prog 63 #[.pointer (some ⟨pp, 0, none⟩)] W fun e w' => e = .returned (.int .i64 0) ∧ Below W.heap.size W w') := fun W hW => by
          refine (room_pg _ _ _ _ _ _ _ _ W (HP.out.later hW.1) h4).mono (fun e w' h => ⟨?_, h.2⟩)
          rw [h.1, hfull, Int.sub_self]
        have HST : Hid (lowL s (l + 1) L = lowL s low L) := by
          show _ = _
          rw [lowL_step (by rw [HLL.out]; exact hlt) (by rw [HPL.out]; exact hfl)]; exact HE.out
        clear hA hc hPL hpp hfl hfull HPP
        go_upto_region 1 with (fail)
        go_region_held3 (SR w1 a (.slice (some ⟨gr, 0, none⟩) Ps.length c) l gr pp) (first | assumption | exact K0.out | exact SR.later (by assumption) (by assumption) | exact SR.later (by assumption) (below_drewN (Below.refl _ _) _)) (first
          | (go_at_call 63; refine (KR.out _ (by assumption)).mono ?_; rintro e w9 ⟨rfl, hb⟩))
        rename SR _ _ _ _ _ _ _ => hS
        have HB9 : Hid (Below w1.heap.size w1 w9) := Lib.hid hS.1
        clear hS
        have HA9 := Lib.hid (HA.out.later HB9.out)
        have c2 := HA9.out.c.2.2.1
        have f2 := HA9.out.blk.frozen 2
        have wl : IntKind.i64.wrap ((l : Int) + 1) = (l : Int) + 1 := IntWalk.i64_in _ (by omega)
        have HF9 := Lib.hid (HF.out.trans (S' := ArSet a g (.slice (some ⟨gr, 0, none⟩) Ps.length c) Ps) (FrS.of_below HB9.out) (fun i h => .inl h))
        have HFX := Lib.hid (HF9.out.trans (HA9.out.frLow (l + 1)) (fun i h => .inl h))
        have HAX := Lib.hid (HA9.out.setLow (l + 1))
        have HL0 := Lib.hid HA.out.lowOf
        have HL1 := Lib.hid HAX.out.lowOf
        clear d1 d1' i5 K0 KR
        go_wp2
        go_roundw
        case rel => exact ⟨l + 1, by omega, by first | exact HAX.out | (have := HAX.out; simpa using this), HST.out, by first | exact HFX.out | (have := HFX.out; simpa using this)⟩
        case measure =>
          have e1 := HL0.out
          have e2 := HL1.out
          simp only [Int.natCast_add, Int.natCast_one] at e1 e2 ⊢
          omega
      · have hfl : fullP s (Ps[l]).2.2 = false := by simpa using hfl
        have hnf : (Ps[l]).2.2.2.1.length ≠ 4096 / s := of_decide_eq_false hfl
        obtain ⟨r, hr⟩ : ∃ r : Int, ((4096 / s : Nat) : Int) - ((Ps[l]).2.2.2.1.length : Nat) = r := ⟨_, rfl⟩
        have hr0 : (r == 0) = false := by rw [beq_eq_false_iff_ne, ← hr]; omega
        have HRR := Lib.hid hr
        have KR : Hid (∀ W, SR w1 a (.slice (some ⟨gr, 0, none⟩) Ps.length c) l gr pp W → Calls Try.prog 63 #[.pointer (some ⟨pp, 0, none⟩)] W fun e w' => e = .returned (.int .i64 r) ∧ Below W.heap.size W w') := fun W hW => by
          refine (room_pg _ _ _ _ _ _ _ _ W (HP.out.later hW.1) h4).mono (fun e w' h => ⟨?_, h.2⟩)
          rw [h.1, HRR.out]
        have HST : Hid (lowL s low L = l) := by
          show _ = _
          rw [← HE.out, lowL_stop (by rw [HLL.out]; exact hlt) (by rw [HPL.out]; exact hfl)]
        clear hA hc hPL hpp hfl hnf HPP hr
        go_upto_region 1 with (fail)
        go_region_held3 (SR w1 a (.slice (some ⟨gr, 0, none⟩) Ps.length c) l gr pp) (first | assumption | exact K0.out | exact SR.later (by assumption) (by assumption) | exact SR.later (by assumption) (below_drewN (Below.refl _ _) _)) (first
          | (go_at_call 63; refine (KR.out _ (by assumption)).mono ?_; rintro e w9 ⟨rfl, hb⟩))
        rename SR _ _ _ _ _ _ _ => hS
        have HB9 : Hid (Below w1.heap.size w1 w9) := Lib.hid hS.1
        clear hS
        have HA9 := Lib.hid (HA.out.later HB9.out)
        have HF9 := Lib.hid (HF.out.trans (S' := ArSet a g (.slice (some ⟨gr, 0, none⟩) Ps.length c) Ps) (FrS.of_below HB9.out) (fun i h => .inl h))
        clear i5 K0 KR hr0
        have e1 : ∀ n, (w9.drewN n).cell? ⟨a, 1, none⟩ = some (.slice (some ⟨gr, 0, none⟩) Ps.length c) := fun n => (HA9.out.later (below_drewN (Below.refl _ _) n)).c.2.1
        have e2 : ∀ n, (w9.drewN n).cell? ⟨a, 2, none⟩ = some (.int .i64 (l : Int)) := fun n => (HA9.out.later (below_drewN (Below.refl _ _) n)).c.2.2.1
        have e3 := HA9.out.c.2.1
        have e4 := HA9.out.c.2.2.1
        go_upto_region 3 with (fail)
        go_quiet (fail)
        have HAX := Lib.hid (HA9.out.later (below_drewN (Below.refl _ _) nq))
        have HFX := Lib.hid (HF9.out.trans (S' := ArSet a g (.slice (some ⟨gr, 0, none⟩) Ps.length c) Ps) (FrS.of_below (below_drewN (Below.refl _ _) nq)) (fun i h => .inl h))
        clear e1 e2 e3 e4
        go_wp2
        go_ret
        exact ⟨true, _, Ps, rfl, by rw [HL.out, HST.out]; exact HAX.out, HFX.out, Nw.refl, .inl ⟨rfl, by rw [HL.out, HST.out]; exact hlt, rfl⟩⟩
    · obtain rfl : l = Ps.length := by omega
      have d1 : decide ((Ps.length : Int) < (Ps.length : Int)) = false := decide_eq_false (by omega)
      have d1' : decide (Ps.length < Ps.length) = false := decide_eq_false (by omega)
      have HST : Hid (lowL s low L = Ps.length) := by
        show _ = _
        rw [← HE.out, lowL_end (by rw [HLL.out]; exact Nat.le_refl _)]
      obtain ⟨AV, cV, rfl, sV⟩ := Ow.sl hA.row
      have e1 : ∀ n, (w1.drewN n).cell? ⟨a, 1, none⟩ = some (.slice AV Ps.length cV) := fun n => (HA.out.later (below_drewN (Below.refl _ _) n)).c.2.1
      have e2 : ∀ n, (w1.drewN n).cell? ⟨a, 2, none⟩ = some (.int .i64 (Ps.length : Int)) := fun n => (HA.out.later (below_drewN (Below.refl _ _) n)).c.2.2.1
      have e3 := HA.out.c.2.1
      have e4 := HA.out.c.2.2.1
      clear hA sV
      go_upto_region 1 with (fail)
      go_quiet (fail)
      have HA2 := Lib.hid (HA.out.later (below_drewN (Below.refl _ _) nq))
      have HF2 := Lib.hid (HF.out.trans (S' := ArSet a g (.slice AV Ps.length cV) Ps) (FrS.of_below (below_drewN (Below.refl _ _) nq)) (fun i h => .inl h))
      clear e1 e2 e3 e4 HA HF
      generalize w1.drewN nq = w2 at *
      have e1 : ∀ n, (w2.drewN n).cell? ⟨a, 1, none⟩ = some (.slice AV Ps.length cV) := fun n => (HA2.out.later (below_drewN (Below.refl _ _) n)).c.2.1
      have e2 : ∀ n, (w2.drewN n).cell? ⟨a, 2, none⟩ = some (.int .i64 (Ps.length : Int)) := fun n => (HA2.out.later (below_drewN (Below.refl _ _) n)).c.2.2.1
      have e3 := HA2.out.c.2.1
      have e4 := HA2.out.c.2.2.1
      go_upto_region 3 with (fail)
      go_quiet (fail)
      have HA3 := Lib.hid (HA2.out.later (below_drewN (Below.refl _ _) nq))
      have HF3 := Lib.hid (HF2.out.trans (S' := ArSet a g (.slice AV Ps.length cV) Ps) (FrS.of_below (below_drewN (Below.refl _ _) nq)) (fun i h => .inl h))
      clear e1 e2 e3 e4 HA2 HF2
      generalize w2.drewN nq = w3 at *
      have e1 := HA3.out.c.2.1
      have e0 := HA3.out.c.1
      by_cases h96 : Ps.length = 4096
      · have d2 : ((Ps.length : Int) == 4096) = true := by rw [h96]; rfl
        have HN96 := Lib.hid h96
        clear h96
        go_wp2
        go_ret
        exact ⟨false, _, Ps, rfl, by rw [HL.out, HST.out]; exact HA3.out, HF3.out, Nw.refl, .inr (.inl ⟨rfl, by rw [HL.out, HST.out], HN96.out, rfl⟩)⟩
      · have d2 : ((Ps.length : Int) == 4096) = false := by rw [beq_eq_false_iff_ne]; omega
        have HN96 : Hid (Ps.length < 4096) := by show _ < _; omega
        clear h96
        go_wp2_with fail
        refine (pg_new s w3 h2 h4).mono ?_
        rintro e w4 ⟨rfl, hp, hb⟩
        have HP4 : Hid (PgS w4 w3.heap.size (w3.heap.size + 1) w3.heap.size s newP) := Lib.hid hp
        have HA4 := Lib.hid (HA3.out.later hb)
        have HF4 := Lib.hid (HF3.out.trans (S' := ArSet a g (.slice AV Ps.length cV) Ps) (FrS.of_below hb) (fun i h => .inl h))
        have HZ3 : Hid (w.heap.size ≤ w3.heap.size ∧ B ≤ w3.heap.size ∧ ∀ x ∈ Ps, x.1 < w3.heap.size ∧ x.2.1 < w3.heap.size) := ⟨HF3.out.size, Nat.le_trans HA3.out.hp (Nat.le_of_lt HA3.out.blk.lt), fun x hx => ⟨(Pg.at_ (HA3.out.pgs x hx)).plt, (Pg.at_ (HA3.out.pgs x hx)).blt⟩⟩
        have HG3 : Hid (g < w3.heap.size) := Lib.hid HA3.out.gens.2.lt
        clear hp hb e0 e1 HA3 HF3
        have hbx : Below w4.heap.size w4 (w4.alloc (.cells #[.pointer (some ⟨w3.heap.size + 1, 0, none⟩)] 89)) := (Below.refl _ _).alloc (Nat.le_refl _) _
        have HA5 := Lib.hid (HA4.out.later hbx)
        have HP5 := Lib.hid ((HP4.out.later hbx).base HZ3.out.2.1)
        have HF5 := Lib.hid (HF4.out.trans (S' := ArSet a g (.slice AV Ps.length cV) Ps) (FrS.of_below hbx) (fun i h => .inl h))
        have HXC : Hid ((w4.alloc (.cells #[.pointer (some ⟨w3.heap.size + 1, 0, none⟩)] 89)).cell? ⟨w4.heap.size, 0, none⟩ = some (pv (w3.heap.size + 1))) := (Blk.new w4 #[.pointer (some ⟨w3.heap.size + 1, 0, none⟩)] 89).cell 0
        have HB5 : Hid (B ≤ (w4.alloc (.cells #[.pointer (some ⟨w3.heap.size + 1, 0, none⟩)] 89)).heap.size) := Nat.le_trans (Nat.le_of_lt (Nat.lt_of_le_of_lt HA4.out.hp HA4.out.blk.lt)) hbx.size
        have HZ5 : Hid (w.heap.size ≤ (w4.alloc (.cells #[.pointer (some ⟨w3.heap.size + 1, 0, none⟩)] 89)).heap.size) := Lib.hid HF5.out.size
        have e1 := HA4.out.c.2.1
        clear hbx
        obtain ⟨pn, hpn⟩ : ∃ pn, w3.heap.size + 1 = pn := ⟨_, rfl⟩
        have HPN : Hid (w3.heap.size + 1 = pn) := hpn
        rw [hpn] at HP5 HXC HA5 HF5 HB5 HZ5
        rw [hpn]
        clear hpn
        generalize w3.heap.size = bn at *
        go_wp2_with (first
          | (at_builtin; refine append_lies_sl elemP rfl (.tmp 66) (.tmp 68) rfl B (.slice AV Ps.length cV) Ps.length (Ps.map (fun x => x.1)) rfl HA5.out.row w4.heap.size pn rfl HXC.out (by omega) (by decide) HB5.out ?_; intro A6 c6 w6 ho6 hg6)
          | fail)
        intro hn6
        have hm := HA5.out.more HP5.out (fun x hx => ⟨by have := (HZ3.out.2.2 x hx).1; have := HPN.out; omega, by have := (HZ3.out.2.2 x hx).2; omega⟩) (by have := HG3.out; omega) ho6 hg6
        have HBLK := Lib.hid hm.1
        have HAR := Lib.hid hm.2
        have HF6 := Lib.hid ((HF5.out.trans (S' := ArSet a g (.slice AV Ps.length cV) Ps) (FrS.of_grown hg6 (fun k e => .inr (.inr (.inl e)))) (fun i h => .inl h)).trans (S' := ArSet a g (.slice AV Ps.length cV) Ps) (FrS.of_grown (grown_set w6 a 1 (.slice A6 (Ps.length + 1) c6)) (fun k e => .inl (Option.some.inj e).symm)) (fun i h => .inl h))
        have HNW : Hid (Nw w (.slice AV Ps.length cV) (.slice A6 (Ps.length + 1) c6)) := Nw.trans Nw.refl hn6 HZ5.out
        have q1 := HBLK.out.cell 1
        have qf := HBLK.out.frozen 1
        simp only [List.getElem?_toArray, List.getElem?_cons_zero, List.getElem?_cons_succ] at q1
        clear ho6 hg6 hn6 hm HXC e1
        go_wp2
        go_ret
        exact ⟨true, _, _, rfl, by rw [HL.out, HST.out]; exact HAR.out, HF6.out, HNW.out, .inr (.inr ⟨rfl, by rw [HL.out, HST.out], HN96.out, _, _, rfl, by have := HZ3.out.1; have := HPN.out; omega, HZ3.out.1⟩)⟩
end Go.Proofs.Ytbncpfkoeahhpaa

/- find; Is, Read, Write, Free. -/
namespace Go.Proofs.Ytbncpfkoeahhpaa
open Go.ChangeShapes Go.WideShapes Go.ChangeAt Go.RowKit Go.Maps
set_option linter.unusedVariables false
set_option linter.unusedSimpArgs false

theorem look69 {w : World} {B b : Nat} {G : List gn.Ct} {z : Int} (h : gn.MapAt w B b G) (ok : gn.Ok G) (hz : gn.rg z) : (Instr.lookup 91 (.map (some b)) (gn.nmv z) false).run Try.prog w = .ok (.int .u32 (gn.ofC G z)) w := by
  obtain ⟨c, hrun, hat, _⟩ := h.2.lookup_int gn.law74 Try.underlying91 Try.underlying97 (gn.zero42 _) (gn.key_nm hz)
  rw [gn.atKey_0 hz ok.rgs] at hat
  simp only [DataW.lit.injEq, Lit.int.injEq, true_and] at hat
  rw [hat]
  exact hrun
theorem h_parts {x : Int} (h0 : 0 ≤ x) (h1 : x ≤ 18446744073709551615) : (hP x : Int) = x / 281474976710656 ∧ 0 ≤ hO x ∧ hO x ≤ 65535 ∧ gn.rg (hZ x) ∧ hZ x / 65536 = (hP x : Int) ∧ hZ x % 65536 = hO x ∧ 0 ≤ hG x ∧ hG x ≤ 4294967295 ∧ hP x ≤ 65535 := by
  unfold hP hO hZ hG gn.rg
  omega
theorem parts_is {x : Int} (w : World) (h0 : 0 ≤ x) (h1 : x ≤ 18446744073709551615) : Calls Try.prog 55 #[.int .u64 x] w fun e w' => e = .returned (.tuple #[.int .u16 (hP x : Int), .int .u16 (hO x), .int .u32 (hG x)]) ∧ w = w' := by
  have h := parts_x x w h0 h1
  rw [← (h_parts h0 h1).1] at h
  exact h
/-- what find tells: the page's pointer, the offset, the error -/
def FEnd (r : Value) (w : World) (e : Ending) (w' : World) : Prop := e = .returned r ∧ Below w.heap.size w w'
def noF : Value := .tuple #[.pointer none, .int .u16 0, .int .i64 5]
set_option maxRecDepth 100000 in
set_option maxHeartbeats 4000000 in
theorem find_far (B a g low s : Nat) (v : Value) (Ps : List Pe) (G : List gn.Ct) (w : World) (h : Ar w B a g v low s Ps G) (x : Int) (h0 : 0 ≤ x) (h1 : x ≤ 18446744073709551615) (hf : ¬ hP x < Ps.length) : Calls Try.prog 48 #[.pointer (some ⟨a, 0, none⟩), .int .u64 x] w (FEnd noF w) := by
  obtain ⟨hp, o0, o1, hz, z1, z2, g0, g1, p1⟩ := h_parts h0 h1
  have HPA := Lib.hid (parts_is w h0 h1)
  obtain ⟨AV, cV, rfl, _⟩ := Ow.sl h.row
  have d1 : decide ((Ps.length : Int) ≤ (hP x : Int)) = true := decide_eq_true (by omega)
  have d1' : decide (Ps.length ≤ hP x) = true := decide_eq_true (by omega)
  have c1 := h.c.2.1
  clear hp hz z1 z2 h
  generalize hP x = px at *
  generalize hO x = ox at *
  generalize hG x = gx at *
  go_enter Try.func48, Try.ntmps48
  go_wp2_with fail
  refine HPA.out.mono ?_
  rintro e w1 ⟨rfl, rfl⟩
  clear HPA
  go_wp2
  go_ret3
  exact ⟨rfl, Below.refl _ _⟩
set_option maxRecDepth 100000 in
set_option maxHeartbeats 4000000 in
theorem find_near (B a g low s : Nat) (v : Value) (Ps : List Pe) (G : List gn.Ct) (w : World) (h : Ar w B a g v low s Ps G) (x : Int) (h0 : 0 ≤ x) (h1 : x ≤ 18446744073709551615) (hf : hP x < Ps.length) (r : Value)
    (hr : r = if isC (Ps[hP x]).2.2.2.1 (hO x) = true ∧ gn.ofC G (hZ x) = hG x then .tuple #[.pointer (some ⟨(Ps[hP x]).1, 0, none⟩), .int .u16 (hO x), .int .i64 0] else noF) : Calls Try.prog 48 #[.pointer (some ⟨a, 0, none⟩), .int .u64 x] w (FEnd r w) := by
  obtain ⟨hp, o0, o1, hz, z1, z2, g0, g1, p1⟩ := h_parts h0 h1
  have HPA := Lib.hid (parts_is w h0 h1)
  obtain ⟨gr, c, rfl, hgr, hc⟩ := h.at_ hf
  have HP := Lib.hid (h.pgs _ (List.getElem_mem hf))
  have HWF := Lib.hid (wf16 o0 o1)
  have HL : Hid (∀ W, Below w.heap.size w W → (Instr.lookup 91 (.map (some g)) (.agg #[.int .u16 (hP x : Int), .int .u16 (hO x)]) false).run Try.prog W = .ok (.int .u32 (gn.ofC G (hZ x))) W) := fun W hb => by
    have := look69 ((h.later hb).gens) h.gok hz
    unfold gn.nmv at this
    rw [z1, z2] at this
    exact this
  have H := Lib.hid h
  have i5 := idx68 gr Ps.length c (hP x) (hP x : Int) rfl hf
  have d1 : decide ((Ps.length : Int) ≤ (hP x : Int)) = false := decide_eq_false (by omega)
  have d1' : decide (Ps.length ≤ hP x) = false := decide_eq_false (by omega)
  have c1 := h.c.2.1
  have hwp : IntKind.i64.wrap (hP x : Int) = (hP x : Int) := IntWalk.i64_in _ (by omega)
  have HR := Lib.hid hr
  clear hp hz z1 z2 h hr
  obtain ⟨pp, hpp⟩ : ∃ pp, (Ps[hP x]).1 = pp := ⟨_, rfl⟩
  obtain ⟨b, hb⟩ : ∃ b, (Ps[hP x]).2.1 = b := ⟨_, rfl⟩
  obtain ⟨P, hPP⟩ : ∃ P, (Ps[hP x]).2.2 = P := ⟨_, rfl⟩
  rw [hpp, hPP] at HR
  rw [hpp, hb, hPP] at HP
  rw [hpp] at hc
  clear hpp hb hPP
  have HIS := Lib.hid (is_any B pp b _ _ _ P.2.1 P.2.2.1 (hO x) w (Pg.at_ HP.out) HWF.out)
  generalize gn.ofC G (hZ x) = gz at *
  generalize hP x = px at *
  generalize hO x = ox at *
  generalize hG x = gx at *
  have c3 := H.out.c.2.2.2
  go_enter Try.func48, Try.ntmps48
  go_wp2_with fail
  refine HPA.out.mono ?_
  rintro e w1 ⟨rfl, rfl⟩
  clear HPA
  go_wp2_with fail
  refine HIS.out.mono ?_
  rintro e w2 ⟨rfl, hb⟩
  have HB := Lib.hid hb
  have c3 := (H.out.later hb).c.2.2.2
  have hl := HL.out _ hb
  clear hb c1 hc HL HIS
  cases hi : isC P.2.1 ox with
  | false =>
    have HRR : Hid (r = noF) := by show _ = _; rw [HR.out, if_neg (fun e => by rw [hi] at e; cases e.1)]
    clear hi HR hl c3
    go_wp2
    go_ret3
    exact ⟨by rw [HRR.out]; rfl, HB.out⟩
  | true =>
    by_cases hg : gz = gx
    · have HRR : Hid (r = .tuple #[.pointer (some ⟨pp, 0, none⟩), .int .u16 ox, .int .i64 0]) := by show _ = _; rw [HR.out, if_pos ⟨hi, hg⟩]
      subst hg
      have dg : (gz != gz) = false := by simp
      clear hi HR
      go_wp2
      go_ret3
      exact ⟨by rw [HRR.out]; rfl, HB.out⟩
    · have HRR : Hid (r = noF) := by show _ = _; rw [HR.out, if_neg (fun e => hg e.2)]
      have dg : (gz != gx) = true := by simp [hg]
      clear hi HR hg
      go_wp2
      go_ret3
      exact ⟨by rw [HRR.out]; rfl, HB.out⟩
/-- the page that a handle names -/
theorem find_all {W : World} {B a s : Nat} {st : AS} {S : Nat → Prop} (h : AR W B a s st S) (x : Int) (h0 : 0 ≤ x) (h1 : x ≤ 18446744073709551615) :
    (isA st x = false ∧ ∀ w, Below W.heap.size W w → Calls Try.prog 48 #[.pointer (some ⟨a, 0, none⟩), .int .u64 x] w (FEnd noF w)) ∨
    (isA st x = true ∧ ∃ g v Ps, Ar W B a g v st.1 s Ps st.2.2 ∧ Ps.map (fun x => x.2.2) = st.2.1 ∧ S = ArSet a g v Ps ∧ ∃ p b P, Ps[hP x]? = some (p, b, P) ∧ st.2.1.getD (hP x) newP = P ∧ isC P.2.1 (hO x) = true ∧
      ∀ w, Below W.heap.size W w → Calls Try.prog 48 #[.pointer (some ⟨a, 0, none⟩), .int .u64 x] w (FEnd (.tuple #[.pointer (some ⟨p, 0, none⟩), .int .u16 (hO x), .int .i64 0]) w)) := by
  obtain ⟨g, v, Ps, ha, hm, hS, _, _⟩ := h
  have hl : st.2.1.length = Ps.length := by rw [← hm, List.length_map]
  by_cases hf : hP x < Ps.length
  · have hg : st.2.1.getD (hP x) newP = (Ps[hP x]).2.2 := by
      rw [List.getD_eq_getElem?_getD, ← hm, List.getElem?_map, List.getElem?_eq_getElem hf]; rfl
    have hi : isA st x = (isC (Ps[hP x]).2.2.2.1 (hO x) && decide (gn.ofC st.2.2 (hZ x) = hG x)) := by
      unfold isA
      rw [hl, decide_eq_true hf, Bool.true_and, hg]
    by_cases hc : isC (Ps[hP x]).2.2.2.1 (hO x) = true ∧ gn.ofC st.2.2 (hZ x) = hG x
    · right
      refine ⟨by rw [hi, hc.1, decide_eq_true hc.2]; rfl, g, v, Ps, ha, hm, hS, (Ps[hP x]).1, (Ps[hP x]).2.1, (Ps[hP x]).2.2, List.getElem?_eq_getElem hf, hg, hc.1, fun w hb => ?_⟩
      exact find_near B a g st.1 s v Ps st.2.2 w (ha.later hb) x h0 h1 hf _ (by rw [if_pos hc])
    · left
      refine ⟨?_, fun w hb => find_near B a g st.1 s v Ps st.2.2 w (ha.later hb) x h0 h1 hf _ (by rw [if_neg hc])⟩
      rw [hi]
      cases e : isC (Ps[hP x]).2.2.2.1 (hO x) with
      | false => rfl
      | true => rw [Bool.true_and]; exact decide_eq_false (fun e2 => hc ⟨e, e2⟩)
  · left
    refine ⟨?_, fun w hb => find_far B a g st.1 s v Ps st.2.2 w (ha.later hb) x h0 h1 hf⟩
    unfold isA
    rw [hl, decide_eq_false hf, Bool.false_and]
set_option maxRecDepth 100000 in
set_option maxHeartbeats 4000000 in
theorem arread_any (B a s : Nat) (st : AS) (S : Nat → Prop) (w : World) (h : AR w B a s st S) (x : Int) (h0 : 0 ≤ x) (h1 : x ≤ 18446744073709551615) : Calls Try.prog 30 #[.pointer (some ⟨a, 0, none⟩), .int .u64 x] w fun e w' => e = .returned (.tuple #[.string (rdA s x st), .int .i64 (rdAE x st)]) ∧ Below w.heap.size w w' := by
  unfold rdA rdAE
  rcases find_all h x h0 h1 with ⟨hi, hf⟩ | ⟨hi, g, v, Ps, ha, _, _, p, b, P, hP1, hP2, hP3, hf⟩
  · have HF := Lib.hid (hf w (Below.refl _ _))
    rw [hi, if_neg (by decide), if_neg (by decide)]
    clear hf hi h
    go_enter Try.func30, Try.ntmps30
    go_wp2_with fail
    refine HF.out.mono ?_
    rintro e w1 ⟨rfl, hb⟩
    have HB := Lib.hid hb
    clear hb HF
    unfold noF
    go_wp2
    go_ret2
    exact ⟨rfl, HB.out⟩
  · have HF := Lib.hid (hf w (Below.refl _ _))
    have hq := h_parts h0 h1
    have hmem : (p, b, P) ∈ Ps := List.mem_of_getElem? hP1
    have HRD : Hid (∀ W, Below w.heap.size w W → Calls Try.prog 52 #[.pointer (some ⟨p, 0, none⟩), .int .u16 (hO x)] W fun e w' => e = .returned (.tuple #[.string (rdT s (hO x) P), .int .i64 0]) ∧ Below W.heap.size W w') := fun W hb => by
      have := rd_any B p b s P W ((ha.pgs _ hmem).later hb) (hO x) (wf16 hq.2.1 hq.2.2.1)
      unfold rdE at this
      rw [hP3, if_pos rfl] at this
      exact this
    rw [hi, if_pos rfl, if_pos rfl, hP2]
    clear hf hi h ha hP1 hP2 hP3 hq hmem
    generalize rdT s (hO x) P = t at *
    generalize hO x = ox at *
    go_enter Try.func30, Try.ntmps30
    go_wp2_with fail
    refine HF.out.mono ?_
    rintro e w1 ⟨rfl, hb⟩
    have HB := Lib.hid hb
    clear hb HF
    go_wp2_with fail
    refine (HRD.out _ HB.out).mono ?_
    rintro e w2 ⟨rfl, hb⟩
    have HB2 := Lib.hid (stepB HB.out hb)
    clear hb HRD HB
    go_wp2
    go_ret2
    exact ⟨rfl, HB2.out⟩
set_option maxRecDepth 100000 in
set_option maxHeartbeats 4000000 in
theorem arwrite_any (B a s : Nat) (st : AS) (S : Nat → Prop) (w : World) (h : AR w B a s st S) (x : Int) (h0 : 0 ≤ x) (h1 : x ≤ 18446744073709551615) (T : ByteArray) (h4 : s ≤ 4096) : Calls Try.prog 28 #[.pointer (some ⟨a, 0, none⟩), .int .u64 x, .string T] w (AEnd B a s (wrA s x T st) S (.int .i64 (wrAE s x T st)) w) := by
  have HA0 := Lib.hid h
  rcases find_all h x h0 h1 with ⟨hi, hf⟩ | ⟨hi, g, v, Ps, ha, hm, hS, p, b, P, hP1, hP2, hP3, hf⟩
  · have HF := Lib.hid (hf w (Below.refl _ _))
    have HS1 : Hid (wrA s x T st = st) := by show _ = _; unfold wrA; rw [hi, if_neg (by decide)]
    have HS2 : Hid (wrAE s x T st = 5) := by show _ = _; unfold wrAE; rw [hi, if_neg (by decide)]
    rw [HS1.out, HS2.out]
    clear hf hi h HS1 HS2
    go_enter Try.func28, Try.ntmps28
    go_wp2_with fail
    refine HF.out.mono ?_
    rintro e w1 ⟨rfl, hb⟩
    have HB := Lib.hid hb
    clear hb HF
    unfold noF
    go_wp2
    go_ret
    exact ⟨rfl, S, HA0.out.later HB.out, fun k hk => .inl hk, FrS.of_below HB.out⟩
  · have HF := Lib.hid (hf w (Below.refl _ _))
    have hq := h_parts h0 h1
    have hmem : (p, b, P) ∈ Ps := List.mem_of_getElem? hP1
    have hl : st.2.1.length = Ps.length := by rw [← hm, List.length_map]
    have hlo : st.1 ≤ st.2.1.length := by obtain ⟨_, _, _, _, _, _, h1, _⟩ := h; exact h1
    have hln : st.2.1.length ≤ 4096 := by obtain ⟨_, _, _, _, _, _, _, h1⟩ := h; exact h1
    clear h
    have h : True := trivial
    have HS1 : Hid (wrA s x T st = (st.1, st.2.1.set (hP x) (wrS s (hO x) T P), st.2.2)) := by show _ = _; unfold wrA; rw [hi, if_pos rfl, hP2]
    have HS2 : Hid (wrAE s x T st = (if T.size ≤ s then 0 else 40)) := by show _ = _; unfold wrAE; rw [hi, if_pos rfl]
    rw [HS1.out, HS2.out]
    subst hS
    have H := Lib.hid ha
    have HMP : Hid (∀ (W : World) (l : Nat) (P' : PS), l ≤ st.1 → Ar W B a g v l s (Ps.set (hP x) (p, b, P')) st.2.2 → AR W B a s (l, st.2.1.set (hP x) P', st.2.2) (ArSet a g v (Ps.set (hP x) (p, b, P')))) := fun W l P' hll hA =>
      ⟨g, v, _, hA, by rw [List.map_set, hm], rfl, by simp only [List.length_set]; omega, by simp only [List.length_set]; exact hln⟩
    have HSS : Hid (∀ P' k, ArSet a g v (Ps.set (hP x) (p, b, P')) k → ArSet a g v Ps k) := fun P' k hk => ArSet.page hP1 hk
    have HPI := Lib.hid hP1
    have HPM := Lib.hid hmem
    have HWF := Lib.hid (wf16 hq.2.1 hq.2.2.1)
    have HQ := Lib.hid hq
    have HIC := Lib.hid hP3
    have HE5 : Hid (wrE s (hO x) T P = (if T.size ≤ s then 0 else 40)) := by show _ = _; unfold wrE; rw [hP3, if_pos rfl]
    obtain ⟨ev, hev⟩ : ∃ ev : Int, (if T.size ≤ s then 0 else 40) = ev := ⟨_, rfl⟩
    rw [hev] at HE5
    rw [hev]
    clear hev
    clear hf hi ha hP1 hP2 hP3 hq hmem HA0 hl hlo hln hm HS1 HS2
    go_enter Try.func28, Try.ntmps28
    go_wp2_with fail
    refine HF.out.mono ?_
    rintro e w1 ⟨rfl, hb⟩
    have HA1 := Lib.hid (H.out.later hb)
    have HF1 : Hid (FrS w w1 (ArSet a g v Ps)) := FrS.of_below hb
    clear hb HF
    have HA2 := HA1
    have HF2 := HF1
    go_wp2_with fail
    refine (wr_any B p b s P w1 (HA2.out.pgs _ HPM.out) h4 (hO x) T HWF.out).mono ?_
    rintro e w3 ⟨rfl, hp, hf⟩
    have HAX := Lib.hid (HA2.out.page HPI.out hf hp)
    have HFX := Lib.hid (HF2.out.trans (S' := ArSet a g v Ps) (FrS.of_fr hf (.inr (.inr (.inr ⟨_, HPM.out, .inl rfl⟩))) (.inr (.inr (.inr ⟨_, HPM.out, .inr rfl⟩)))) (fun i h => .inl h))
    clear hp hf
    go_wp2
    go_ret
    refine ⟨?_, ArSet a g v (Ps.set (hP x) (p, b, wrS s (hO x) T P)), ?_, fun k hk => .inl (HSS.out _ _ hk), HFX.out⟩
    · show Ending.returned (.int .i64 (wrE s (hO x) T P)) = _
      rw [HE5.out]
    try rw [HMN.out]
    exact HMP.out _ _ _ (by omega) HAX.out
set_option maxRecDepth 100000 in
set_option maxHeartbeats 4000000 in
theorem arfree_any (B a s : Nat) (st : AS) (S : Nat → Prop) (w : World) (h : AR w B a s st S) (x : Int) (h0 : 0 ≤ x) (h1 : x ≤ 18446744073709551615) (h4 : s ≤ 4096) : Calls Try.prog 36 #[.pointer (some ⟨a, 0, none⟩), .int .u64 x] w (AEnd B a s (frA x st) S (.int .i64 (frAE x st)) w) := by
  have HA0 := Lib.hid h
  rcases find_all h x h0 h1 with ⟨hi, hf⟩ | ⟨hi, g, v, Ps, ha, hm, hS, p, b, P, hP1, hP2, hP3, hf⟩
  · have HF := Lib.hid (hf w (Below.refl _ _))
    have HS1 : Hid (frA x st = st) := by show _ = _; unfold frA; rw [hi, if_neg (by decide)]
    have HS2 : Hid (frAE x st = 5) := by show _ = _; unfold frAE; rw [hi, if_neg (by decide)]
    rw [HS1.out, HS2.out]
    clear hf hi h HS1 HS2
    go_enter Try.func36, Try.ntmps36
    go_wp2_with fail
    refine HF.out.mono ?_
    rintro e w1 ⟨rfl, hb⟩
    have HB := Lib.hid hb
    clear hb HF
    unfold noF
    go_wp2
    go_ret
    exact ⟨rfl, S, HA0.out.later HB.out, fun k hk => .inl hk, FrS.of_below HB.out⟩
  · have HF := Lib.hid (hf w (Below.refl _ _))
    have hq := h_parts h0 h1
    have hmem : (p, b, P) ∈ Ps := List.mem_of_getElem? hP1
    have hl : st.2.1.length = Ps.length := by rw [← hm, List.length_map]
    have hlo : st.1 ≤ st.2.1.length := by obtain ⟨_, _, _, _, _, _, h1, _⟩ := h; exact h1
    have hln : st.2.1.length ≤ 4096 := by obtain ⟨_, _, _, _, _, _, _, h1⟩ := h; exact h1
    clear h
    have h : True := trivial
    have HS1 : Hid (frA x st = (min st.1 (hP x), st.2.1.set (hP x) (frS (hO x) P), st.2.2)) := by show _ = _; unfold frA; rw [hi, if_pos rfl, hP2]
    have HS2 : Hid (frAE x st = 0) := by show _ = _; unfold frAE; rw [hi, if_pos rfl]
    rw [HS1.out, HS2.out]
    subst hS
    have H := Lib.hid ha
    have HMP : Hid (∀ (W : World) (l : Nat) (P' : PS), l ≤ st.1 → Ar W B a g v l s (Ps.set (hP x) (p, b, P')) st.2.2 → AR W B a s (l, st.2.1.set (hP x) P', st.2.2) (ArSet a g v (Ps.set (hP x) (p, b, P')))) := fun W l P' hll hA =>
      ⟨g, v, _, hA, by rw [List.map_set, hm], rfl, by simp only [List.length_set]; omega, by simp only [List.length_set]; exact hln⟩
    have HSS : Hid (∀ P' k, ArSet a g v (Ps.set (hP x) (p, b, P')) k → ArSet a g v Ps k) := fun P' k hk => ArSet.page hP1 hk
    have HPI := Lib.hid hP1
    have HPM := Lib.hid hmem
    have HWF := Lib.hid (wf16 hq.2.1 hq.2.2.1)
    have HQ := Lib.hid hq
    have HIC := Lib.hid hP3
    have HE5 : Hid (frE (hO x) P = 0) := by show _ = _; unfold frE; rw [hP3, if_pos rfl]
    have HPA := Lib.hid (fun W => parts_is W h0 h1)
    clear hf hi ha hP1 hP2 hP3 hq hmem HA0 hl hlo hln hm HS1 HS2
    go_enter Try.func36, Try.ntmps36
    go_wp2_with fail
    refine HF.out.mono ?_
    rintro e w1 ⟨rfl, hb⟩
    have HA1 := Lib.hid (H.out.later hb)
    have HF1 : Hid (FrS w w1 (ArSet a g v Ps)) := FrS.of_below hb
    clear hb HF
    go_wp2_with fail
    refine (HPA.out _).mono ?_
    rintro e w2 ⟨rfl, rfl⟩
    have c2 := HA1.out.c.2.2.1
    have f2 := HA1.out.blk.frozen 2
    have hwp : IntKind.i64.wrap (hP x : Int) = (hP x : Int) := IntWalk.i64_in _ (by have := HQ.out.2.2.2.2.2.2.2.2; omega)
    rcases Nat.lt_or_ge (hP x) st.1 with hlt | hge
    · have HMN : Hid (min st.1 (hP x) = hP x) := by show _ = _; omega
      have HA2 := Lib.hid (HA1.out.setLow (hP x))
      have HF2 := Lib.hid (HF1.out.trans (S' := ArSet a g v Ps) (HA1.out.frLow (hP x)) (fun i h => .inl h))
      go_wp2_with fail
      refine (fr_any B p b s P _ (HA2.out.pgs _ HPM.out) (hO x) HWF.out).mono ?_
      rintro e w3 ⟨rfl, hp, hf⟩
      have HAX := Lib.hid (HA2.out.page HPI.out hf hp)
      have HFX := Lib.hid (HF2.out.trans (S' := ArSet a g v Ps) (FrS.of_fr hf (.inr (.inr (.inr ⟨_, HPM.out, .inl rfl⟩))) (.inr (.inr (.inr ⟨_, HPM.out, .inr rfl⟩)))) (fun i h => .inl h))
      clear hp hf
      go_wp2
      go_ret
      refine ⟨?_, ArSet a g v (Ps.set (hP x) (p, b, frS (hO x) P)), ?_, fun k hk => .inl (HSS.out _ _ hk), HFX.out⟩
      · show Ending.returned (.int .i64 (frE (hO x) P)) = _
        rw [HE5.out]
      try rw [HMN.out]
      exact HMP.out _ _ _ (by omega) HAX.out
    · have HMN : Hid (min st.1 (hP x) = st.1) := by show _ = _; omega
      have HA2 := Lib.hid (HA1.out.setLow st.1)
      have HF2 := Lib.hid (HF1.out.trans (S' := ArSet a g v Ps) (HA1.out.frLow st.1) (fun i h => .inl h))
      go_wp2_with fail
      refine (fr_any B p b s P _ (HA2.out.pgs _ HPM.out) (hO x) HWF.out).mono ?_
      rintro e w3 ⟨rfl, hp, hf⟩
      have HAX := Lib.hid (HA2.out.page HPI.out hf hp)
      have HFX := Lib.hid (HF2.out.trans (S' := ArSet a g v Ps) (FrS.of_fr hf (.inr (.inr (.inr ⟨_, HPM.out, .inl rfl⟩))) (.inr (.inr (.inr ⟨_, HPM.out, .inr rfl⟩)))) (fun i h => .inl h))
      clear hp hf
      go_wp2
      go_ret
      refine ⟨?_, ArSet a g v (Ps.set (hP x) (p, b, frS (hO x) P)), ?_, fun k hk => .inl (HSS.out _ _ hk), HFX.out⟩
      · show Ending.returned (.int .i64 (frE (hO x) P)) = _
        rw [HE5.out]
      try rw [HMN.out]
      exact HMP.out _ _ _ (by omega) HAX.out
end Go.Proofs.Ytbncpfkoeahhpaa

/- Alloc. -/
namespace Go.Proofs.Ytbncpfkoeahhpaa
open Go.ChangeShapes Go.WideShapes Go.ChangeAt Go.RowKit Go.Maps
set_option linter.unusedVariables false
set_option linter.unusedSimpArgs false

theorem step_callw {P : Program} {ops : Array Oper} {Q : Exit → Act → World → Prop} {o : Oper} {a : Act} {w : World} {K : Act → World → Prop} {D : Prop} (hw : Region.wanted o (yielded ops a.tmps) = true) (f : FuncId) (args : Array Value) (hrun : (execOp a.eval o).run P w = .ok (.enter f args) w) (h : Calls P f args w fun e w' => ∃ v, e = .returned v ∧ K (a.put o.dst v) w') :
    if Region.wanted o (yielded ops a.tmps) = true then Oper.wp P o a w K Q else D := by
  rw [if_pos hw]
  unfold Oper.wp
  rw [hrun, Oper.upon_enter]
  refine h.mono fun e w' hh => ?_
  obtain ⟨v, rfl, hk⟩ := hh
  exact hk
theorem klaw74 : Go.WideMaps.KeyLaw Try.prog 96 := deep_law_laid gn.laid_out (m := 5) (by decide) (of_decide_eq_true (by kernel_rfl)) (by kernel_rfl) (by kernel_rfl)
theorem gn.of_put {G : List gn.Ct} (h : gn.Ok G) {z n : Int} (hz : gn.rg z) (hn : (Lit.int .u32 n).wf = true) : gn.ofC (gn.putC G z n) z = n :=
  (gn.of_is (h.put hz hn).up (gn.mem_ins.2 (.inl rfl))).2
theorem wf32 {n : Int} (h0 : 0 ≤ n) (h1 : n ≤ 4294967295) : (Lit.int .u32 n).wf = true := by
  simp only [Lit.wf, Bool.and_eq_true, decide_eq_true_eq]
  exact ⟨by show (0 : Int) ≤ _; omega, by show _ ≤ (4294967295 : Int); omega⟩
/-- an entry that is asked for is the entry that a store of its own value leaves -/
theorem entry_same {H : Type} {P : Program} {w : World} {t k e : TypeId} {R : Value → Option (DataW H × List MemPlace)} {b : Nat} {es : Array MapEntry} {clock : Nat}
    (K : Go.WideMaps.KeyLaw P k) (ht : P.underlying t = some (.map k e)) {z : Value} (hz : ∀ u : World, (zeroValue e).run P u = .ok z u) (hb : w.heap[b]? = some (.map es clock)) (F : Go.WideElems.Fit P k R es clock)
    {key : Value} {kl : Lit} (hkey : keyOf P k key = some kl) : ∃ (v0 : Value) (st : Nat) (w1 : World), (Instr.mapEntry t (.map (some b)) key).run P w = .ok (.tuple #[v0, goInt st]) w1 ∧ (Instr.mapUpdate t (.map (some b)) key v0).run P w = .ok () w1 ∧ (Instr.lookup t (.map (some b)) key false).run P w = .ok v0 w := by
  rcases K.find w hkey es.toList F.keys with ⟨f1, f2⟩ | ⟨j, e0, f1, f2, f3⟩
  · refine ⟨z, clock, Go.ChangeMaps.setBlock w b (Obj.map (es.push ⟨key, z, clock⟩) (clock + 1)), ?_, ?_, ?_⟩
    · simp [Instr.mapEntry, run_underlying ht, MapKept.run_getObj_map hb, K.check w false hkey, f1, hz, MapKept.run_setObj_map _ hb, Result.andThen, Go.ChangeMaps.setBlock]
    · simp [Instr.mapUpdate, run_underlying ht, MapKept.run_getObj_map hb, K.check w false hkey, f1, MapKept.run_setObj_map _ hb, Result.andThen, Go.ChangeMaps.setBlock]
    · simp [Instr.lookup, run_underlying ht, MapKept.run_getObj_map hb, K.check w es.isEmpty hkey, f1, hz, Result.andThen]
  · have q1 : es[j]? = some e0 := by simpa using f2
    have q2 : ∀ g : MapEntry → MapEntry, g e0 = e0 → es.modify j g = es := fun g hg => by
      apply Array.ext'
      rw [Array.toList_modify, Go.ChangeMaps.modify_eq_set _ _ _ _ f2, hg]
      exact Go.WideElems.set_self _ _ _ f2
    have q3 : ({ e0 with key := key } : MapEntry) = e0 := by rw [← f3]
    have q4 : ({ e0 with key := key, val := e0.val } : MapEntry) = e0 := by rw [← f3]
    refine ⟨e0.val, e0.born, Go.ChangeMaps.setBlock w b (Obj.map es clock), ?_, ?_, ?_⟩
    · simp [Instr.mapEntry, run_underlying ht, MapKept.run_getObj_map hb, K.check w false hkey, f1, q1, f3, K.stays w hkey, q2 (fun e => { e with key := key }) q3, MapKept.run_setObj_map _ hb, Result.andThen, Go.ChangeMaps.setBlock]
    · simp [Instr.mapUpdate, run_underlying ht, MapKept.run_getObj_map hb, K.check w false hkey, f1, q1, f3, K.stays w hkey, q2 (fun e' => { e' with key := key, val := e0.val }) q4, MapKept.run_setObj_map _ hb, Result.andThen, Go.ChangeMaps.setBlock]
    · simp [Instr.lookup, run_underlying ht, MapKept.run_getObj_map hb, K.check w es.isEmpty hkey, f1, Result.andThen]
/-- 'm[k]++' -/
theorem gens_inc {W : World} {B b : Nat} {G : List gn.Ct} {z n : Int} (h : gn.MapAt W B b G) (ok : gn.Ok G) (hz : gn.rg z) (hn : (Lit.int .u32 n).wf = true) (hl : G.length < 1000000000) :
    ∃ (st : Nat) (W1 W2 : World), (Instr.mapEntry 91 (.map (some b)) (gn.nmv z)).run Try.prog W = .ok (.tuple #[.int .u32 (gn.ofC G z), .int .i64 (st : Int)]) W1 ∧
      (Instr.lookup 91 (.map (some b)) (gn.nmv z) false).run Try.prog W1 = .ok (.int .u32 (gn.ofC G z)) W1 ∧
      (Instr.entryStore 91 (.map (some b)) (.int .i64 (st : Int)) (.int .u32 n)).run Try.prog W1 = .ok () W2 ∧ W2.ownsMap Try.prog 96 gn.R3 b (G.length + 1) (gn.dm (gn.putC G z n)) ∧ W.grownBy W1 (some b) ∧ W.grownBy W2 (some b) := by
  obtain ⟨es, clock, hb, F, hs, hD⟩ := id h.2
  have hr3 := look69 h ok hz
  obtain ⟨v0, st, W1, r1, r2, r3⟩ := entry_same klaw74 Try.underlying91 gn.zero42 hb F (gn.key_nm hz)
  rw [hr3] at r3
  have hv0 : v0 = .int .u32 (gn.ofC G z) := by simpa using r3.symm
  subst hv0
  have hwc := ok.of z
  obtain ⟨w1, hrun1, hown1, hg1⟩ := h.2.update gn.law74 Try.underlying91 (by unfold maxLen; omega) (gn.key_nm hz) (plainElem_int Try.underlying97 hwc)
  rw [gn.put_dm hz ok.rgs] at hown1
  rw [r2] at hrun1
  obtain rfl : W1 = w1 := by simpa using hrun1
  obtain ⟨w2, hrun2, hown2, hg2⟩ := h.2.update gn.law74 Try.underlying91 (by unfold maxLen; omega) (gn.key_nm hz) (plainElem_int Try.underlying97 hn)
  rw [gn.put_dm hz ok.rgs] at hown2
  obtain ⟨v0', st', es1, clock1, h1, _, h2⟩ := Go.WideElems.entry_then_store klaw74 Try.underlying91 gn.zero42 hb F (gn.key_nm hz)
  rw [r1] at h1
  have h1' : st = st' ∧ W1 = Go.ChangeMaps.setBlock W b (Obj.map es1 clock1) := by
    simp only [Result.ok.injEq, Value.tuple.injEq, Array.mk.injEq, List.cons.injEq, and_true, goInt, Value.int.injEq, true_and] at h1
    exact ⟨by have := h1.1.2; omega, h1.2⟩
  obtain ⟨rfl, hW1⟩ := h1'
  have hb1 : W1.heap[b]? = some (Obj.map es1 clock1) := by rw [hW1]; exact Go.ChangeMaps.heap_setBlock_same hb _
  obtain ⟨es', clock', h3, h4⟩ := h2 W1 (.int .u32 n) hb1
  have e : Go.ChangeMaps.setBlock W1 b (Obj.map es' clock') = w2 := by
    rw [h4] at hrun2
    have h5 : Go.ChangeMaps.setBlock W b (Obj.map es' clock') = w2 := by simpa using hrun2
    rw [← h5, hW1]
    simp [Go.ChangeMaps.setBlock]
  rw [e] at h3
  refine ⟨st, W1, w2, r1, ?_, h3, hown2, hg1, hg2⟩
  have hl2 := look69 ⟨h.1, gn.own_tight hown1⟩ (ok.put hz hwc) hz
  rw [gn.of_put ok hz hwc] at hl2
  exact hl2
abbrev SC (a : Nat) (v : Value) (l gr p : Nat) (W : World) : Prop := W.cell? ⟨a, 1, none⟩ = some v ∧ W.cell? ⟨a, 2, none⟩ = some (.int .i64 (l : Int)) ∧ W.cell? ⟨gr, l, none⟩ = some (.pointer (some ⟨p, 0, none⟩))
abbrev SK (a g px l o : Nat) (W : World) : Prop := W.cell? ⟨a, 3, none⟩ = some (.map (some g)) ∧ W.cell? ⟨px, 0, none⟩ = some (.int .u16 (l : Int)) ∧ W.cell? ⟨px, 1, none⟩ = some (.int .u16 (o : Int))
abbrev SL (a g px l o : Nat) (nn : Int) (W : World) : Prop := W.cell? ⟨a, 3, none⟩ = some (.map (some g)) ∧ W.cell? ⟨px, 0, none⟩ = some (.int .u16 (l : Int)) ∧ W.cell? ⟨px, 1, none⟩ = some (.int .u16 (o : Int)) ∧ (Instr.lookup 91 (.map (some g)) (.agg #[.int .u16 (l : Int), .int .u16 (o : Int)]) false).run Try.prog W = .ok (.int .u32 nn) W
/-- what Alloc does once there is room -/
def PutEnd (B a s l : Nat) (L : List PS) (G : List gn.Ct) (S : Nat → Prop) (w : World) (e : Ending) (w' : World) : Prop := AEnd B a s (putA s l L G).1 S (.tuple #[.int .u64 (putA s l L G).2.1, .int .i64 0]) w e w'
theorem nextO_rg {W : World} {B p b s : Nat} {P : PS} (h : PgS W B p b s P) (hs : s ≤ 4096) (hn : fullP s P = false) : nextO s P + s ≤ 4096 ∧ alO s P = (nextO s P : Int) ∧ alE s P = 0 := by
  have h : Pg W B p b s P.1 P.2.1 P.2.2.1 P.2.2.2 := h
  have hf : P.2.1.length ≠ 4096 / s := of_decide_eq_false hn
  have hr : P.2.1.length < 4096 / s := by have := h.room.2; omega
  have ha := (pg_alloc_new h hr).2
  unfold alO alE
  rw [if_neg hf, if_neg hf]
  refine ⟨?_, rfl, rfl⟩
  unfold nextO
  unfold allC at ha
  split at ha <;> simp_all
set_option maxRecDepth 100000 in
set_option maxHeartbeats 8000000 in
theorem alloc_any (B a s : Nat) (st : AS) (S : Nat → Prop) (w : World) (h : AR w B a s st S) (h2 : 2 ≤ s) (h4 : s ≤ 4096) (hG : st.2.2.length < 1000000000) : Calls Try.prog 27 #[.pointer (some ⟨a, 0, none⟩)] w (AEnd B a s (alA s st).1 S (.tuple #[.int .u64 (alA s st).2.1, .int .i64 (alA s st).2.2]) w) := by
  obtain ⟨g, v, Ps, ha, hm, rfl, hlo, hln⟩ := h
  obtain ⟨low, L, G⟩ := st
  simp only at ha hm hlo hln hG
  have hl : L.length = Ps.length := by rw [← hm, List.length_map]
  have HRM := Lib.hid (room_any4 B a g low s v Ps G w ha h2 h4 (by omega) (by omega))
  have HLO : Hid (lowL s low (Ps.map (fun x => x.2.2)) ≤ Ps.length) := by
    have := lowL_le (s := s) (low := low) (L := Ps.map (fun x => x.2.2)) (by rw [List.length_map]; omega)
    rw [List.length_map] at this
    exact this
  have HIS := Lib.hid (lowL_is s (Ps.map (fun x => x.2.2)) _ low rfl (by rw [List.length_map]; omega))
  have HM := Lib.hid hm
  have HLL : Hid (L.length = Ps.length) := hl
  have HLN : Hid (Ps.length ≤ 4096) := by show _ ≤ _; omega
  obtain ⟨r1, hr1⟩ : ∃ r, (alA s (low, L, G)).1 = r := ⟨_, rfl⟩
  obtain ⟨r2, hr2⟩ : ∃ r, (alA s (low, L, G)).2.1 = r := ⟨_, rfl⟩
  obtain ⟨r3, hr3⟩ : ∃ r, (alA s (low, L, G)).2.2 = r := ⟨_, rfl⟩
  rw [hr1, hr2, hr3]
  have HRR : Hid (alA s (low, L, G) = (r1, r2, r3)) := by show _ = _; rw [← hr1, ← hr2, ← hr3]
  clear hr1 hr2 hr3 hm hl hlo hln ha
  go_enter Try.func27, Try.ntmps27
  go_wp2_with fail
  refine HRM.out.mono ?_
  rintro e w1 ⟨r, v', Ps', rfl, hA, hF, hN, hc⟩
  have HA := Lib.hid hA
  have HF := Lib.hid hF
  have HSET : Hid (∀ k, ArSet a g v' Ps' k → ArSet a g v Ps k ∨ w.heap.size ≤ k) := by
    intro k hk
    rcases hk with h | h | h | ⟨x, hx, h⟩
    · exact .inl (.inl h)
    · exact .inl (.inr (.inl h))
    · rcases hN k h with h | h
      · exact .inl (.inr (.inr (.inl h)))
      · exact .inr h
    · rcases hc with ⟨_, _, rfl⟩ | ⟨_, _, _, rfl⟩ | ⟨_, _, _, p, b, rfl, h5, h6⟩
      · exact .inl (.inr (.inr (.inr ⟨x, hx, h⟩)))
      · exact .inl (.inr (.inr (.inr ⟨x, hx, h⟩)))
      · rcases List.mem_append.1 hx with hx | hx
        · exact .inl (.inr (.inr (.inr ⟨x, hx, h⟩)))
        · obtain rfl := List.mem_singleton.1 hx
          simp only at h
          exact .inr (by omega)
  clear HRM
  by_cases hfull : r = false
  · subst hfull
    have HEND : Hid (r1 = (lowL s low L, L, G) ∧ r2 = 0 ∧ r3 = 41 ∧ Ps' = Ps) := by
      rcases hc with ⟨e, _⟩ | ⟨_, h5, h6, h7⟩ | ⟨e, _⟩
      · cases e
      · have h8 := HRR.out
        unfold alA at h8
        simp only at h8
        rw [HM.out, ← HLL.out] at h5
        rw [if_neg (by omega), if_pos (by rw [HLL.out]; exact h6)] at h8
        simp only [Prod.mk.injEq] at h8
        exact ⟨by rw [← h8.1], h8.2.1.symm, h8.2.2.symm, h7⟩
      · cases e
    clear hc hA hF hN
    go_wp2
    go_ret2
    obtain ⟨e1, e2, e3, e4⟩ := HEND.out
    refine ⟨by rw [e2, e3]; rfl, _, ⟨g, v', Ps', by rw [e1]; have := HA.out; rw [HM.out] at this; exact this, by rw [e1, e4]; exact HM.out, rfl, by rw [e1]; have := HLO.out; rw [HM.out] at this; simp only; rw [HLL.out]; exact this, by rw [e1]; simp only; rw [HLL.out]; exact HLN.out⟩, HSET.out, HF.out⟩
  · have hr : r = true := by simpa using hfull
    subst hr
    obtain ⟨l, hl0⟩ : ∃ l, lowL s low (Ps.map (fun x => x.2.2)) = l := ⟨_, rfl⟩
    have HPUT : Hid (l < Ps'.length ∧ Ps'.length ≤ 4096 ∧ (∀ hh : l < Ps'.length, fullP s (Ps'[l]).2.2 = false) ∧ (r1, r2, r3) = putA s l (Ps'.map (fun x => x.2.2)) G) := by
      rcases hc with ⟨_, h5, rfl⟩ | ⟨e, _⟩ | ⟨_, h5, h6, p, b, rfl, _, _⟩
      · rw [hl0] at h5
        refine ⟨h5, HLN.out, fun hh => ?_, ?_⟩
        · have := HIS.out.2 (Ps'[l]).2.2 (by rw [hl0, List.getElem?_map, List.getElem?_eq_getElem h5]; rfl)
          exact this
        · rw [← HRR.out]
          unfold alA
          simp only
          rw [← HM.out, hl0, if_pos (by rw [List.length_map]; exact h5)]
      · cases e
      · rw [hl0] at h5
        refine ⟨by simp; omega, by simp; omega, fun hh => ?_, ?_⟩
        · subst h5
          rw [List.getElem_append_right (Nat.le_refl _)]
          simp only [Nat.sub_self, List.getElem_cons_zero]
          unfold fullP newP
          have : 1 ≤ 4096 / s := (Nat.le_div_iff_mul_le (by omega)).2 (by omega)
          exact decide_eq_false (by simp; omega)
        · rw [← HRR.out]
          unfold alA
          simp only
          rw [← HM.out, hl0, if_neg (by rw [List.length_map]; omega), if_neg (by rw [List.length_map]; omega), List.map_append]; rfl
    rw [hl0] at hA HA
    obtain ⟨hlt, hle, hnf, hput⟩ := HPUT.out
    have hnf := hnf hlt
    obtain ⟨gr, c, rfl, hgr, hcell⟩ := hA.at_ hlt
    obtain ⟨n, hn⟩ : ∃ n, Ps'.length = n := ⟨_, rfl⟩
    obtain ⟨⟨p, b, P⟩, hx⟩ : ∃ x, Ps'[l] = x := ⟨_, rfl⟩
    have hP1 : Ps'[l]? = some (p, b, P) := by rw [List.getElem?_eq_getElem hlt, hx]
    rw [hx] at hnf hcell
    simp only at hnf hcell
    have hmem : (p, b, P) ∈ Ps' := List.mem_of_getElem? hP1
    have hPP := hA.pgs _ hmem
    simp only at hPP
    have HPA := Lib.hid (hA.pa hmem)
    have HOO := Lib.hid (nextO_rg hPP h4 hnf)
    have HGR : Hid (gr ≠ p ∧ gr ≠ b) := by
      have := HPA.out.2.2.2
      exact ⟨fun e => this.1 (by rw [e]; rfl), fun e => this.2 (by rw [e]; rfl)⟩
    have HPI := Lib.hid hP1
    have HPM := Lib.hid hmem
    have HLT : Hid (l < n ∧ n ≤ 4096) := ⟨by omega, by omega⟩
    have HGD : Hid ((Ps'.map (fun x => x.2.2)).getD l newP = P) := by
      show _ = _
      rw [List.getD_eq_getElem?_getD, List.getElem?_map, hP1]; rfl
    have HPT := Lib.hid hput
    have hlt' : l < n := by omega
    have i5 := idx68 gr n c l (l : Int) rfl hlt'
    have K0 : Hid (SC a (.slice (some ⟨gr, 0, none⟩) n c) l gr p w1) := ⟨by rw [← hn]; exact hA.c.2.1, hA.c.2.2.1, hcell⟩
    have HNN : Hid (Ps'.length = n) := hn
    rw [HNN.out] at HA HSET
    clear hc hN hl0 hA hF hle hnf hput hgr hcell hx hP1 hmem hPP HPUT HIS HLO
    go_upto_region 5 with (fail)
    refine wp_region_noPanic ?_
    have hbd : Below w1.heap.size w1 w1.drew := Below.drew (Below.refl _ _)
    have HA2 := Lib.hid (HA.out.later hbd)
    have HF2 := Lib.hid (HF.out.trans (S' := ArSet a g v Ps) (FrS.of_below hbd) (fun i h => .inl h))
    clear hbd
    have HAL := Lib.hid (al_any B p b s P w1.drew (HA2.out.pgs _ HPM.out) h4)
    rw [HOO.out.2.1, HOO.out.2.2] at HAL
    refine wp_region_held_drew (S := SC a (.slice (some ⟨gr, 0, none⟩) n c) l gr p) (by kernel_rfl) K0.out (fun hHeld => ?_)
    refine wpAnyH_take (i := 0) (oi := { dst := some 13, op := Op.move (Operand.tmp 0), type := 66, pos := "arena.go:39", after := #[], guard := none }) (v := ?_) rfl (by kernel_rfl) (by kernel_rfl) (by kernel_rfl) (fun _ _ _ h => h) (Or.inl ⟨by rfl, ?_⟩) (by assumption) ?_
    rotate_left
    · intro W hSw
      obtain ⟨k1, k2, k3⟩ := hSw
      go_simp
      try with_reducible rfl
    simp only [Act.put, List.setIfInBounds_toArray, List.set_cons_zero, List.set_cons_succ]
    refine wpAnyH_take (i := 1) (oi := { dst := some 14, op := Op.nilCheck (Operand.tmp 13), type := 0, pos := "arena.go:39", after := #[{ on := 0, ground := Ground.data }], guard := none }) (v := ?_) rfl (by kernel_rfl) (by kernel_rfl) (by kernel_rfl) (fun _ _ _ h => h) (Or.inl ⟨by rfl, ?_⟩) (by assumption) ?_
    rotate_left
    · intro W hSw
      obtain ⟨k1, k2, k3⟩ := hSw
      go_simp
      try with_reducible rfl
    simp only [Act.put, List.setIfInBounds_toArray, List.set_cons_zero, List.set_cons_succ]
    refine wpAnyH_take (i := 2) (oi := { dst := some 15, op := Op.fieldAddr 93 (Operand.tmp 14) 1, type := 0, pos := "arena.go:39", after := #[{ on := 1, ground := Ground.data }], guard := none }) (v := ?_) rfl (by kernel_rfl) (by kernel_rfl) (by kernel_rfl) (fun _ _ _ h => h) (Or.inl ⟨by rfl, ?_⟩) (by assumption) ?_
    rotate_left
    · intro W hSw
      obtain ⟨k1, k2, k3⟩ := hSw
      go_simp
      try with_reducible rfl
    simp only [Act.put, List.setIfInBounds_toArray, List.set_cons_zero, List.set_cons_succ]
    refine wpAnyH_take (i := 3) (oi := { dst := some 16, op := Op.load 90 (Operand.tmp 15), type := 90, pos := "arena.go:39", after := #[{ on := 2, ground := Ground.data }], guard := none }) (v := ?_) rfl (by kernel_rfl) (by kernel_rfl) (by kernel_rfl) (fun _ _ _ h => h) (Or.inl ⟨by rfl, ?_⟩) (by assumption) ?_
    rotate_left
    · intro W hSw
      obtain ⟨k1, k2, k3⟩ := hSw
      go_simp
      try with_reducible rfl
    simp only [Act.put, List.setIfInBounds_toArray, List.set_cons_zero, List.set_cons_succ]
    refine wpAnyH_take (i := 4) (oi := { dst := some 17, op := Op.move (Operand.tmp 0), type := 66, pos := "arena.go:39", after := #[], guard := none }) (v := ?_) rfl (by kernel_rfl) (by kernel_rfl) (by kernel_rfl) (fun _ _ _ h => h) (Or.inl ⟨by rfl, ?_⟩) (by assumption) ?_
    rotate_left
    · intro W hSw
      obtain ⟨k1, k2, k3⟩ := hSw
      go_simp
      try with_reducible rfl
    simp only [Act.put, List.setIfInBounds_toArray, List.set_cons_zero, List.set_cons_succ]
    refine wpAnyH_take (i := 5) (oi := { dst := some 18, op := Op.nilCheck (Operand.tmp 17), type := 0, pos := "arena.go:39", after := #[{ on := 4, ground := Ground.data }], guard := none }) (v := ?_) rfl (by kernel_rfl) (by kernel_rfl) (by kernel_rfl) (fun _ _ _ h => h) (Or.inl ⟨by rfl, ?_⟩) (by assumption) ?_
    rotate_left
    · intro W hSw
      obtain ⟨k1, k2, k3⟩ := hSw
      go_simp
      try with_reducible rfl
    simp only [Act.put, List.setIfInBounds_toArray, List.set_cons_zero, List.set_cons_succ]
    refine wpAnyH_take (i := 6) (oi := { dst := some 19, op := Op.fieldAddr 93 (Operand.tmp 18) 2, type := 0, pos := "arena.go:39", after := #[{ on := 5, ground := Ground.data }], guard := none }) (v := ?_) rfl (by kernel_rfl) (by kernel_rfl) (by kernel_rfl) (fun _ _ _ h => h) (Or.inl ⟨by rfl, ?_⟩) (by assumption) ?_
    rotate_left
    · intro W hSw
      obtain ⟨k1, k2, k3⟩ := hSw
      go_simp
      try with_reducible rfl
    simp only [Act.put, List.setIfInBounds_toArray, List.set_cons_zero, List.set_cons_succ]
    refine wpAnyH_take (i := 7) (oi := { dst := some 20, op := Op.load 3 (Operand.tmp 19), type := 3, pos := "arena.go:39", after := #[{ on := 6, ground := Ground.data }], guard := none }) (v := ?_) rfl (by kernel_rfl) (by kernel_rfl) (by kernel_rfl) (fun _ _ _ h => h) (Or.inl ⟨by rfl, ?_⟩) (by assumption) ?_
    rotate_left
    · intro W hSw
      obtain ⟨k1, k2, k3⟩ := hSw
      go_simp
      try with_reducible rfl
    simp only [Act.put, List.setIfInBounds_toArray, List.set_cons_zero, List.set_cons_succ]
    refine wpAnyH_take (i := 8) (oi := { dst := some 21, op := Op.indexAddr 90 (Operand.tmp 16) (Operand.tmp 20), type := 0, pos := "arena.go:39", after := #[{ on := 3, ground := Ground.data }, { on := 7, ground := Ground.data }], guard := none }) (v := ?_) rfl (by kernel_rfl) (by kernel_rfl) (by kernel_rfl) (fun _ _ _ h => h) (Or.inl ⟨by rfl, ?_⟩) (by assumption) ?_
    rotate_left
    · intro W hSw
      obtain ⟨k1, k2, k3⟩ := hSw
      go_simp
      try with_reducible rfl
    simp only [Act.put, List.setIfInBounds_toArray, List.set_cons_zero, List.set_cons_succ]
    refine wpAnyH_take (i := 9) (oi := { dst := some 22, op := Op.load 89 (Operand.tmp 21), type := 89, pos := "arena.go:39", after := #[{ on := 8, ground := Ground.data }], guard := none }) (v := ?_) rfl (by kernel_rfl) (by kernel_rfl) (by kernel_rfl) (fun _ _ _ h => h) (Or.inl ⟨by rfl, ?_⟩) (by assumption) ?_
    rotate_left
    · intro W hSw
      obtain ⟨k1, k2, k3⟩ := hSw
      go_simp
      try with_reducible rfl
    simp only [Act.put, List.setIfInBounds_toArray, List.set_cons_zero, List.set_cons_succ]
    refine wpAnyH_ready (rs := [10]) (by kernel_rfl) (by simp) (AllReadyH.cons (o := { dst := some 23, op := Op.call { callee := Callee.value (Operand.func 46), args := #[Operand.tmp 22], argTypes := #[89] }, type := 88, pos := "arena.go:39", after := #[{ on := 9, ground := Ground.data }], guard := none }) rfl (fun K hK => ?_) AllReadyH.nil)
    refine step_callw (by rfl) 46 #[.pointer (some ⟨p, 0, none⟩)] (by go_simp) ?_
    refine (HAL.out).mono ?_
    rintro z w3 ⟨rfl, hp, hf⟩
    have HA3 := Lib.hid (HA2.out.page HPI.out hf hp)
    have HF3 := Lib.hid (HF2.out.trans (FrS.of_fr hf (S := ArSet a g (.slice (some ⟨gr, 0, none⟩) n c) Ps') (.inr (.inr (.inr ⟨_, HPM.out, .inl rfl⟩))) (.inr (.inr (.inr ⟨_, HPM.out, .inr rfl⟩)))) HSET.out)
    have S2 : SC a (.slice (some ⟨gr, 0, none⟩) n c) l gr p w3 := by
      refine ⟨?_, ?_, ?_⟩
      · rw [← hHeld.1]; exact World.cell?_of_block (a := ⟨a, 1, none⟩) (hf.block a (lt_of_cell hHeld.1) (Ne.symm HPA.out.1) (Ne.symm HPA.out.2.1))
      · rw [← hHeld.2.1]; exact World.cell?_of_block (a := ⟨a, 2, none⟩) (hf.block a (lt_of_cell hHeld.2.1) (Ne.symm HPA.out.1) (Ne.symm HPA.out.2.1))
      · rw [← hHeld.2.2]; exact World.cell?_of_block (a := ⟨gr, l, none⟩) (hf.block gr (lt_of_cell hHeld.2.2) HGR.out.1 HGR.out.2)
    refine ⟨_, rfl, hK.out _ _ S2 (fun hHeld2 => ?_)⟩
    clear hK K hHeld HAL hp hf S2 K0
    simp only [Act.put, List.setIfInBounds_toArray, List.set_cons_zero, List.set_cons_succ]
    refine wpAnyH_take (i := 11) (oi := { dst := some 12, op := Op.move (Operand.tmp 23), type := 88, pos := "arena.go:39", after := #[{ on := 10, ground := Ground.data }], guard := none }) (v := ?_) rfl (by kernel_rfl) (by kernel_rfl) (by kernel_rfl) (fun _ _ _ h => h) (Or.inl ⟨by rfl, ?_⟩) (by assumption) ?_
    rotate_left
    · intro W hSw
      obtain ⟨k1, k2, k3⟩ := hSw
      go_simp
      try with_reducible rfl
    simp only [Act.put, List.setIfInBounds_toArray, List.set_cons_zero, List.set_cons_succ]
    refine wpAnyH_take (i := 12) (oi := { dst := some 24, op := Op.extract (Operand.tmp 12) 0, type := 87, pos := "arena.go:39", after := #[{ on := 11, ground := Ground.data }], guard := none }) (v := ?_) rfl (by kernel_rfl) (by kernel_rfl) (by kernel_rfl) (fun _ _ _ h => h) (Or.inl ⟨by rfl, ?_⟩) (by assumption) ?_
    rotate_left
    · intro W hSw
      obtain ⟨k1, k2, k3⟩ := hSw
      go_simp
      try with_reducible rfl
    simp only [Act.put, List.setIfInBounds_toArray, List.set_cons_zero, List.set_cons_succ]
    refine wpAnyH_take (i := 13) (oi := { dst := some 25, op := Op.extract (Operand.tmp 12) 1, type := 25, pos := "arena.go:39", after := #[{ on := 11, ground := Ground.data }, { on := 14, ground := Ground.gcOnly Departure.lateStores }], guard := none }) (v := ?_) rfl (by kernel_rfl) (by kernel_rfl) (by kernel_rfl) (fun _ _ _ h => h) (Or.inl ⟨by rfl, ?_⟩) (by assumption) ?_
    rotate_left
    · intro W hSw
      obtain ⟨k1, k2, k3⟩ := hSw
      go_simp
      try with_reducible rfl
    simp only [Act.put, List.setIfInBounds_toArray, List.set_cons_zero, List.set_cons_succ]
    refine wpAnyH_take (i := 14) (oi := { dst := some 4, op := Op.assign (Operand.tmp 24), type := 87, pos := "arena.go:39", after := #[{ on := 12, ground := Ground.data }, { on := 10, ground := Ground.chain }, { on := 0, ground := Ground.phase }, { on := 1, ground := Ground.phase }, { on := 2, ground := Ground.phase }, { on := 3, ground := Ground.phase }, { on := 4, ground := Ground.phase }, { on := 5, ground := Ground.phase }, { on := 6, ground := Ground.phase }, { on := 7, ground := Ground.phase }, { on := 8, ground := Ground.phase }, { on := 9, ground := Ground.phase }, { on := 10, ground := Ground.phase }, { on := 11, ground := Ground.phase }, { on := 12, ground := Ground.phase }, { on := 13, ground := Ground.textOnly Departure.lateStores }], guard := none }) (v := ?_) rfl (by kernel_rfl) (by kernel_rfl) (by kernel_rfl) (fun _ _ _ h => h) (Or.inl ⟨by rfl, ?_⟩) (by assumption) ?_
    rotate_left
    · intro W hSw
      obtain ⟨k1, k2, k3⟩ := hSw
      go_simp
      try with_reducible rfl
    simp only [Act.put, List.setIfInBounds_toArray, List.set_cons_zero, List.set_cons_succ]
    refine wpAnyH_take (i := 15) (oi := { dst := some 5, op := Op.assign (Operand.tmp 25), type := 25, pos := "arena.go:39", after := #[{ on := 13, ground := Ground.data }, { on := 14, ground := Ground.chain }, { on := 0, ground := Ground.phase }, { on := 1, ground := Ground.phase }, { on := 2, ground := Ground.phase }, { on := 3, ground := Ground.phase }, { on := 4, ground := Ground.phase }, { on := 5, ground := Ground.phase }, { on := 6, ground := Ground.phase }, { on := 7, ground := Ground.phase }, { on := 8, ground := Ground.phase }, { on := 9, ground := Ground.phase }, { on := 10, ground := Ground.phase }, { on := 11, ground := Ground.phase }, { on := 12, ground := Ground.phase }, { on := 13, ground := Ground.phase }, { on := 14, ground := Ground.phase }], guard := none }) (v := ?_) rfl (by kernel_rfl) (by kernel_rfl) (by kernel_rfl) (fun _ _ _ h => h) (Or.inl ⟨by rfl, ?_⟩) (by assumption) ?_
    rotate_left
    · intro W hSw
      obtain ⟨k1, k2, k3⟩ := hSw
      go_simp
      try with_reducible rfl
    simp only [Act.put, List.setIfInBounds_toArray, List.set_cons_zero, List.set_cons_succ]
    refine wpAnyH_done (by kernel_rfl) (NoPanic.normal ?_) _
    clear hHeld2 i5 HA HF HA2 HF2
    obtain ⟨o, ho⟩ : ∃ o, nextO s P = o := ⟨_, rfl⟩
    have HO := Lib.hid ho
    have ho4 : o ≤ 4095 := by have := HOO.out.1; omega
    rw [ho]
    clear ho
    generalize hPS2 : Ps'.set l (p, b, alS s P) = Ps2 at *
    have HPS2 := Lib.hid hPS2
    clear hPS2
    have hl96 : l ≤ 4095 := by have := HLT.out; omega
    have wl : IntKind.u16.wrap (l : Int) = (l : Int) := by simp [IntKind.wrap, IntKind.bits, IntKind.signed]; omega
    have c2 := HA3.out.c.2.2.1
    go_upto_region 9 with (fail)
    have hbx : Below w3.heap.size w3 (w3.alloc (.cells #[.int .u16 (l : Int), .int .u16 (o : Int)] 96)) := (Below.refl _ _).alloc (Nat.le_refl _) _
    have HX : Hid (Blk (w3.alloc (.cells #[.int .u16 (l : Int), .int .u16 (o : Int)] 96)) w3.heap.size #[.int .u16 (l : Int), .int .u16 (o : Int)] 96) := Blk.new _ _ _
    have HA4 := Lib.hid (HA3.out.later hbx)
    have HF4 := Lib.hid (HF3.out.trans (S' := ArSet a g v Ps) (FrS.of_below hbx) (fun i h => .inl h))
    clear hbx c2 wl
    generalize w3.alloc (.cells #[.int .u16 (l : Int), .int .u16 (o : Int)] 96) = w4 at *
    generalize w3.heap.size = px at *
    have HZ : Hid (gn.nmv (zOf l o) = .agg #[.int .u16 (l : Int), .int .u16 (o : Int)]) := by
      show _ = _
      unfold gn.nmv zOf
      rw [show ((l : Int) * 65536 + (o : Int)) / 65536 = (l : Int) from by omega, show ((l : Int) * 65536 + (o : Int)) % 65536 = (o : Int) from by omega]
    have HRG : Hid (gn.rg (zOf l o)) := by show _ ∧ _; unfold zOf; omega
    obtain ⟨gc, hgc⟩ : ∃ gc, gn.ofC G (zOf l o) = gc := ⟨_, rfl⟩
    obtain ⟨nn, hnn⟩ : ∃ nn : Int, (gc + 1) % 4294967296 = nn := ⟨_, rfl⟩
    have HGC := Lib.hid hgc
    have HNV := Lib.hid hnn
    have hn0 : 0 ≤ nn ∧ nn ≤ 4294967295 := by omega
    have HN0 := Lib.hid hn0
    have wn : IntKind.u32.wrap (gc + 1) = nn := by rw [IntKind.wrap_u32]; exact hnn
    have hbd : Below w4.heap.size w4 w4.drew := Below.drew (Below.refl _ _)
    have HA5 := Lib.hid (HA4.out.later hbd)
    have HX5 := Lib.hid (HX.out.later hbd)
    have HF5 := Lib.hid (HF4.out.trans (S' := ArSet a g v Ps) (FrS.of_below hbd) (fun i h => .inl h))
    have hL0 := look69 HA5.out.gens HA5.out.gok HRG.out
    obtain ⟨sst, W1, W2, hm1, hL1, hm2, ho, hg1, hg⟩ := gens_inc (W := w4.drew) (n := nn) HA5.out.gens HA5.out.gok HRG.out (wf32 hn0.1 hn0.2) hG
    rw [HZ.out, HGC.out] at hm1 hL1 hL0
    have hS3 : SK a g px l o w4.drew := ⟨HA5.out.c.2.2.2, HX5.out.cell 0, HX5.out.cell 1⟩
    have hpg : some px ≠ some g := fun e => by
      obtain ⟨es, z, hh⟩ := HA5.out.tg
      have h9 : w4.drew.heap[px]? = some (.cells _ 96 (0, 0)) := HX5.out
      rw [Option.some.inj e, hh] at h9; cases h9
    have hag : some a ≠ some g := fun e => HA5.out.ag (Option.some.inj e)
    have hSK : ∀ W, w4.drew.grownBy W (some g) → SK a g px l o W := fun W hW => ⟨by
      rw [← hS3.1]; exact World.cell?_of_block (a := ⟨a, 3, none⟩) (hW.block a (lt_of_cell hS3.1) hag), by
      rw [← hS3.2.1]; exact World.cell?_of_block (a := ⟨px, 0, none⟩) (hW.block px (lt_of_cell hS3.2.1) hpg), by
      rw [← hS3.2.2]; exact World.cell?_of_block (a := ⟨px, 1, none⟩) (hW.block px (lt_of_cell hS3.2.2) hpg)⟩
    have HS1 := Lib.hid (hSK _ hg1)
    have HS2 := Lib.hid (hSK _ hg)
    have HA6 := Lib.hid (HA5.out.gens_turn hg ho (HA5.out.gok.put HRG.out (wf32 hn0.1 hn0.2)))
    have HX6 : Hid (Blk W2 px #[.int .u16 (l : Int), .int .u16 (o : Int)] 96) := Lib.hid (HX5.out.grown hg hpg)
    have HF6 := Lib.hid (HF5.out.trans (FrS.of_grown hg (S := ArSet a g (.slice (some ⟨gr, 0, none⟩) n c) Ps2) (fun k e => .inr (.inl (Option.some.inj e).symm))) (fun k hk => HSET.out k (by rw [← HPS2.out] at hk; exact ArSet.page HPI.out hk)))
    have hGP := gn.of_put HA5.out.gok HRG.out (wf32 hn0.1 hn0.2)
    have HGP := Lib.hid hGP
    have HS3 := Lib.hid hS3
    clear hbd hgc hnn hn0 ho hg hg1 HA3 HF3 HA4 HF4 HX hSK hpg hag hGP hS3
    refine wp_region_noPanic ?_
    refine wp_region_held_drew (S := SK a g px l o) (by kernel_rfl) HS3.out (fun hHeld => ?_)
    refine wpAnyH_take (i := 0) (oi := { dst := some 36, op := Op.move (Operand.tmp 0), type := 66, pos := "arena.go:44", after := #[], guard := none }) (v := ?_) rfl (by kernel_rfl) (by kernel_rfl) (by kernel_rfl) (fun _ _ _ h => h) (Or.inl ⟨by rfl, ?_⟩) (by assumption) ?_
    rotate_left
    · intro W hSw
      obtain ⟨k1, k2, k3⟩ := hSw
      go_simp
      try with_reducible rfl
    simp only [Act.put, List.setIfInBounds_toArray, List.set_cons_zero, List.set_cons_succ]
    refine wpAnyH_take (i := 1) (oi := { dst := some 37, op := Op.nilCheck (Operand.tmp 36), type := 0, pos := "arena.go:44", after := #[{ on := 0, ground := Ground.data }], guard := none }) (v := ?_) rfl (by kernel_rfl) (by kernel_rfl) (by kernel_rfl) (fun _ _ _ h => h) (Or.inl ⟨by rfl, ?_⟩) (by assumption) ?_
    rotate_left
    · intro W hSw
      obtain ⟨k1, k2, k3⟩ := hSw
      go_simp
      try with_reducible rfl
    simp only [Act.put, List.setIfInBounds_toArray, List.set_cons_zero, List.set_cons_succ]
    refine wpAnyH_take (i := 2) (oi := { dst := some 38, op := Op.fieldAddr 93 (Operand.tmp 37) 3, type := 0, pos := "arena.go:44", after := #[{ on := 1, ground := Ground.data }], guard := none }) (v := ?_) rfl (by kernel_rfl) (by kernel_rfl) (by kernel_rfl) (fun _ _ _ h => h) (Or.inl ⟨by rfl, ?_⟩) (by assumption) ?_
    rotate_left
    · intro W hSw
      obtain ⟨k1, k2, k3⟩ := hSw
      go_simp
      try with_reducible rfl
    simp only [Act.put, List.setIfInBounds_toArray, List.set_cons_zero, List.set_cons_succ]
    refine wpAnyH_take (i := 3) (oi := { dst := some 39, op := Op.load 91 (Operand.tmp 38), type := 91, pos := "arena.go:44", after := #[{ on := 2, ground := Ground.data }], guard := none }) (v := ?_) rfl (by kernel_rfl) (by kernel_rfl) (by kernel_rfl) (fun _ _ _ h => h) (Or.inl ⟨by rfl, ?_⟩) (by assumption) ?_
    rotate_left
    · intro W hSw
      obtain ⟨k1, k2, k3⟩ := hSw
      go_simp
      try with_reducible rfl
    simp only [Act.put, List.setIfInBounds_toArray, List.set_cons_zero, List.set_cons_succ]
    refine wpAnyH_take (i := 4) (oi := { dst := some 40, op := Op.load 96 (Operand.tmp 6), type := 96, pos := "arena.go:44", after := #[], guard := none }) (v := ?_) rfl (by kernel_rfl) (by kernel_rfl) (by kernel_rfl) (fun _ _ _ h => h) (Or.inl ⟨by rfl, ?_⟩) (by assumption) ?_
    rotate_left
    · intro W hSw
      obtain ⟨k1, k2, k3⟩ := hSw
      go_simp
      try with_reducible rfl
    simp only [Act.put, List.setIfInBounds_toArray, List.set_cons_zero, List.set_cons_succ]
    refine wpAnyH_ready (rs := [5, 7]) (by kernel_rfl) (by simp) (AllReadyH.cons (o := { dst := some 41, op := Op.lookup 91 (Operand.tmp 39) (Operand.tmp 40) false, type := 97, pos := "arena.go:44", after := #[{ on := 3, ground := Ground.data }, { on := 4, ground := Ground.data }], guard := none }) rfl (fun K hK => ?_) (AllReadyH.cons (o := { dst := some 43, op := Op.mapEntry 91 (Operand.tmp 39) (Operand.tmp 40), type := 0, pos := "arena.go:44", after := #[{ on := 3, ground := Ground.data }, { on := 4, ground := Ground.data }, { on := 0, ground := Ground.phase }, { on := 1, ground := Ground.phase }, { on := 2, ground := Ground.phase }, { on := 3, ground := Ground.phase }, { on := 4, ground := Ground.phase }, { on := 5, ground := Ground.textOnly Departure.mapOpAssignEntry }, { on := 6, ground := Ground.textOnly Departure.mapOpAssignEntry }], guard := none }) rfl (fun K hK => ?_) AllReadyH.nil))
    rotate_left
    · go_simp
      refine hK.out _ _ HS1.out (fun hHeld2 => ?_)
      clear hK K hHeld
      have hHeld := hHeld2
      clear hHeld2
      try simp only [Act.put, List.setIfInBounds_toArray, List.set_cons_zero, List.set_cons_succ]
      refine wpAnyH_take (i := 8) (oi := { dst := some 44, op := Op.extract (Operand.tmp 43) 1, type := 3, pos := "arena.go:44", after := #[{ on := 7, ground := Ground.data }], guard := none }) (v := ?_) rfl (by kernel_rfl) (by kernel_rfl) (by kernel_rfl) (fun _ _ _ h => h) (Or.inl ⟨by rfl, ?_⟩) (by assumption) ?_
      rotate_left
      · intro W hSw
        obtain ⟨k1, k2, k3⟩ := hSw
        go_simp
        try with_reducible rfl
      simp only [Act.put, List.setIfInBounds_toArray, List.set_cons_zero, List.set_cons_succ]
      refine wpAnyH_ready (rs := [5]) (by kernel_rfl) (by simp) (AllReadyH.cons (o := { dst := some 41, op := Op.lookup 91 (Operand.tmp 39) (Operand.tmp 40) false, type := 97, pos := "arena.go:44", after := #[{ on := 3, ground := Ground.data }, { on := 4, ground := Ground.data }], guard := none }) rfl (fun K hK => ?_) AllReadyH.nil)
      go_simp
      refine hK.out _ _ HS1.out (fun hHeld => ?_)
      clear hK K
      try simp only [Act.put, List.setIfInBounds_toArray, List.set_cons_zero, List.set_cons_succ]
      refine wpAnyH_take (i := 6) (oi := { dst := some 42, op := Op.binOp BinOp.add 97 (Operand.tmp 41) (Operand.const (Value.int IntKind.u32 1)) 97, type := 97, pos := "arena.go:44", after := #[{ on := 5, ground := Ground.data }], guard := none }) (v := ?_) rfl (by kernel_rfl) (by kernel_rfl) (by kernel_rfl) (fun _ _ _ h => h) (Or.inl ⟨by rfl, ?_⟩) (by assumption) ?_
      rotate_left
      · intro W hSw
        obtain ⟨k1, k2, k3⟩ := hSw
        go_simp
        try with_reducible rfl
      simp only [Act.put, List.setIfInBounds_toArray, List.set_cons_zero, List.set_cons_succ]
      refine wpAnyH_ready (rs := [9]) (by kernel_rfl) (by simp) (AllReadyH.cons (o := { dst := none, op := Op.entryStore 91 (Operand.tmp 39) (Operand.tmp 44) (Operand.tmp 42), type := 0, pos := "arena.go:44", after := #[{ on := 3, ground := Ground.data }, { on := 8, ground := Ground.data }, { on := 6, ground := Ground.data }, { on := 7, ground := Ground.chain }, { on := 0, ground := Ground.phase }, { on := 1, ground := Ground.phase }, { on := 2, ground := Ground.phase }, { on := 3, ground := Ground.phase }, { on := 4, ground := Ground.phase }, { on := 5, ground := Ground.phase }, { on := 6, ground := Ground.phase }, { on := 7, ground := Ground.phase }, { on := 8, ground := Ground.phase }], guard := none }) rfl (fun K hK => ?_) AllReadyH.nil)
      go_simp
      refine hK.out _ _ HS2.out (fun hHeld => ?_)
      clear hK K
      try simp only [Act.put, List.setIfInBounds_toArray, List.set_cons_zero, List.set_cons_succ]
      refine wpAnyH_done (by kernel_rfl) (NoPanic.normal ?_) _
      clear hm1 hm2 hL0 hL1 wn
      clear hHeld
      go_upto_region 10 with (fail)
      have hbd : Below W2.heap.size W2 W2.drew := Below.drew (Below.refl _ _)
      have HA7 := Lib.hid (HA6.out.later hbd)
      have HX7 := Lib.hid (HX6.out.later hbd)
      have HF7 := Lib.hid (HF6.out.trans (S' := ArSet a g v Ps) (FrS.of_below hbd) (fun i h => .inl h))
      have HS7 : Hid (SL a g px l o nn W2.drew) := by
        have h := look69 HA7.out.gens HA7.out.gok HRG.out
        rw [HZ.out, HGP.out] at h
        exact ⟨HA7.out.c.2.2.2, HX7.out.cell 0, HX7.out.cell 1, h⟩
      have HHD := Lib.hid (handle_x (l : Int) (o : Int) nn W2.drew (by omega) (by omega) (by omega) (by omega) HN0.out.1 HN0.out.2)
      clear hbd
      refine wp_region_noPanic ?_
      refine wp_region_held_drew (S := SL a g px l o nn) (by kernel_rfl) HS7.out (fun hHeld => ?_)
      refine wpAnyH_take (i := 0) (oi := { dst := some 45, op := Op.fieldAddr 96 (Operand.tmp 6) 0, type := 0, pos := "arena.go:45", after := #[], guard := none }) (v := ?_) rfl (by kernel_rfl) (by kernel_rfl) (by kernel_rfl) (fun _ _ _ h => h) (Or.inl ⟨by rfl, ?_⟩) (by assumption) ?_
      rotate_left
      · intro W hSw
        obtain ⟨k1, k2, k3, k4⟩ := hSw
        go_simp
        try with_reducible rfl
      simp only [Act.put, List.setIfInBounds_toArray, List.set_cons_zero, List.set_cons_succ]
      refine wpAnyH_take (i := 1) (oi := { dst := some 46, op := Op.load 87 (Operand.tmp 45), type := 87, pos := "arena.go:45", after := #[{ on := 0, ground := Ground.data }], guard := none }) (v := ?_) rfl (by kernel_rfl) (by kernel_rfl) (by kernel_rfl) (fun _ _ _ h => h) (Or.inl ⟨by rfl, ?_⟩) (by assumption) ?_
      rotate_left
      · intro W hSw
        obtain ⟨k1, k2, k3, k4⟩ := hSw
        go_simp
        try with_reducible rfl
      simp only [Act.put, List.setIfInBounds_toArray, List.set_cons_zero, List.set_cons_succ]
      refine wpAnyH_take (i := 2) (oi := { dst := some 47, op := Op.fieldAddr 96 (Operand.tmp 6) 1, type := 0, pos := "arena.go:45", after := #[], guard := none }) (v := ?_) rfl (by kernel_rfl) (by kernel_rfl) (by kernel_rfl) (fun _ _ _ h => h) (Or.inl ⟨by rfl, ?_⟩) (by assumption) ?_
      rotate_left
      · intro W hSw
        obtain ⟨k1, k2, k3, k4⟩ := hSw
        go_simp
        try with_reducible rfl
      simp only [Act.put, List.setIfInBounds_toArray, List.set_cons_zero, List.set_cons_succ]
      refine wpAnyH_take (i := 3) (oi := { dst := some 48, op := Op.load 87 (Operand.tmp 47), type := 87, pos := "arena.go:45", after := #[{ on := 2, ground := Ground.data }], guard := none }) (v := ?_) rfl (by kernel_rfl) (by kernel_rfl) (by kernel_rfl) (fun _ _ _ h => h) (Or.inl ⟨by rfl, ?_⟩) (by assumption) ?_
      rotate_left
      · intro W hSw
        obtain ⟨k1, k2, k3, k4⟩ := hSw
        go_simp
        try with_reducible rfl
      simp only [Act.put, List.setIfInBounds_toArray, List.set_cons_zero, List.set_cons_succ]
      refine wpAnyH_take (i := 4) (oi := { dst := some 49, op := Op.move (Operand.tmp 0), type := 66, pos := "arena.go:45", after := #[], guard := none }) (v := ?_) rfl (by kernel_rfl) (by kernel_rfl) (by kernel_rfl) (fun _ _ _ h => h) (Or.inl ⟨by rfl, ?_⟩) (by assumption) ?_
      rotate_left
      · intro W hSw
        obtain ⟨k1, k2, k3, k4⟩ := hSw
        go_simp
        try with_reducible rfl
      simp only [Act.put, List.setIfInBounds_toArray, List.set_cons_zero, List.set_cons_succ]
      refine wpAnyH_take (i := 5) (oi := { dst := some 50, op := Op.nilCheck (Operand.tmp 49), type := 0, pos := "arena.go:45", after := #[{ on := 4, ground := Ground.data }], guard := none }) (v := ?_) rfl (by kernel_rfl) (by kernel_rfl) (by kernel_rfl) (fun _ _ _ h => h) (Or.inl ⟨by rfl, ?_⟩) (by assumption) ?_
      rotate_left
      · intro W hSw
        obtain ⟨k1, k2, k3, k4⟩ := hSw
        go_simp
        try with_reducible rfl
      simp only [Act.put, List.setIfInBounds_toArray, List.set_cons_zero, List.set_cons_succ]
      refine wpAnyH_take (i := 6) (oi := { dst := some 51, op := Op.fieldAddr 93 (Operand.tmp 50) 3, type := 0, pos := "arena.go:45", after := #[{ on := 5, ground := Ground.data }], guard := none }) (v := ?_) rfl (by kernel_rfl) (by kernel_rfl) (by kernel_rfl) (fun _ _ _ h => h) (Or.inl ⟨by rfl, ?_⟩) (by assumption) ?_
      rotate_left
      · intro W hSw
        obtain ⟨k1, k2, k3, k4⟩ := hSw
        go_simp
        try with_reducible rfl
      simp only [Act.put, List.setIfInBounds_toArray, List.set_cons_zero, List.set_cons_succ]
      refine wpAnyH_take (i := 7) (oi := { dst := some 52, op := Op.load 91 (Operand.tmp 51), type := 91, pos := "arena.go:45", after := #[{ on := 6, ground := Ground.data }], guard := none }) (v := ?_) rfl (by kernel_rfl) (by kernel_rfl) (by kernel_rfl) (fun _ _ _ h => h) (Or.inl ⟨by rfl, ?_⟩) (by assumption) ?_
      rotate_left
      · intro W hSw
        obtain ⟨k1, k2, k3, k4⟩ := hSw
        go_simp
        try with_reducible rfl
      simp only [Act.put, List.setIfInBounds_toArray, List.set_cons_zero, List.set_cons_succ]
      refine wpAnyH_take (i := 8) (oi := { dst := some 53, op := Op.load 96 (Operand.tmp 6), type := 96, pos := "arena.go:45", after := #[], guard := none }) (v := ?_) rfl (by kernel_rfl) (by kernel_rfl) (by kernel_rfl) (fun _ _ _ h => h) (Or.inl ⟨by rfl, ?_⟩) (by assumption) ?_
      rotate_left
      · intro W hSw
        obtain ⟨k1, k2, k3, k4⟩ := hSw
        go_simp
        try with_reducible rfl
      simp only [Act.put, List.setIfInBounds_toArray, List.set_cons_zero, List.set_cons_succ]
      refine wpAnyH_take (i := 9) (oi := { dst := some 54, op := Op.lookup 91 (Operand.tmp 52) (Operand.tmp 53) false, type := 97, pos := "arena.go:45", after := #[{ on := 7, ground := Ground.data }, { on := 8, ground := Ground.data }], guard := none }) (v := ?_) rfl (by kernel_rfl) (by kernel_rfl) (by kernel_rfl) (fun _ _ _ h => h) (Or.inl ⟨by rfl, ?_⟩) (by assumption) ?_
      rotate_left
      · intro W hSw
        obtain ⟨k1, k2, k3, k4⟩ := hSw
        go_simp
        try with_reducible rfl
      simp only [Act.put, List.setIfInBounds_toArray, List.set_cons_zero, List.set_cons_succ]
      refine wpAnyH_ready (rs := [10]) (by kernel_rfl) (by simp) (AllReadyH.cons (o := { dst := some 55, op := Op.call { callee := Callee.value (Operand.func 47), args := #[Operand.tmp 46, Operand.tmp 48, Operand.tmp 54], argTypes := #[87, 87, 97] }, type := 24, pos := "arena.go:45", after := #[{ on := 1, ground := Ground.data }, { on := 3, ground := Ground.data }, { on := 9, ground := Ground.data }], guard := none }) rfl (fun K hK => ?_) AllReadyH.nil)
      refine step_callw (by rfl) 47 #[.int .u16 (l : Int), .int .u16 (o : Int), .int .u32 nn] (by go_simp) ?_
      refine (HHD.out).mono ?_
      rintro z w9 ⟨rfl, rfl⟩
      refine ⟨_, rfl, hK.out _ _ HS7.out (fun hHeld2 => ?_)⟩
      clear hK K hHeld HHD
      simp only [Act.put, List.setIfInBounds_toArray, List.set_cons_zero, List.set_cons_succ]
      refine wpAnyH_take (i := 11) (oi := { dst := some 2, op := Op.assign (Operand.tmp 55), type := 24, pos := "arena.go:45", after := #[{ on := 10, ground := Ground.data }, { on := 10, ground := Ground.chain }, { on := 0, ground := Ground.phase }, { on := 1, ground := Ground.phase }, { on := 2, ground := Ground.phase }, { on := 3, ground := Ground.phase }, { on := 4, ground := Ground.phase }, { on := 5, ground := Ground.phase }, { on := 6, ground := Ground.phase }, { on := 7, ground := Ground.phase }, { on := 8, ground := Ground.phase }, { on := 9, ground := Ground.phase }, { on := 10, ground := Ground.phase }], guard := none }) (v := ?_) rfl (by kernel_rfl) (by kernel_rfl) (by kernel_rfl) (fun _ _ _ h => h) (Or.inl ⟨by rfl, ?_⟩) (by assumption) ?_
      rotate_left
      · intro W hSw
        obtain ⟨k1, k2, k3, k4⟩ := hSw
        go_simp
        try with_reducible rfl
      simp only [Act.put, List.setIfInBounds_toArray, List.set_cons_zero, List.set_cons_succ]
      refine wpAnyH_take (i := 12) (oi := { dst := some 3, op := Op.assign (Operand.const (Value.int IntKind.i64 0)), type := 25, pos := "arena.go:45", after := #[{ on := 11, ground := Ground.chain }, { on := 0, ground := Ground.phase }, { on := 1, ground := Ground.phase }, { on := 2, ground := Ground.phase }, { on := 3, ground := Ground.phase }, { on := 4, ground := Ground.phase }, { on := 5, ground := Ground.phase }, { on := 6, ground := Ground.phase }, { on := 7, ground := Ground.phase }, { on := 8, ground := Ground.phase }, { on := 9, ground := Ground.phase }, { on := 10, ground := Ground.phase }, { on := 11, ground := Ground.phase }], guard := none }) (v := ?_) rfl (by kernel_rfl) (by kernel_rfl) (by kernel_rfl) (fun _ _ _ h => h) (Or.inl ⟨by rfl, ?_⟩) (by assumption) ?_
      rotate_left
      · intro W hSw
        obtain ⟨k1, k2, k3, k4⟩ := hSw
        go_simp
        try with_reducible rfl
      simp only [Act.put, List.setIfInBounds_toArray, List.set_cons_zero, List.set_cons_succ]
      refine wpAnyH_done (by kernel_rfl) (NoPanic.normal ?_) _
      go_wp2
      go_ret2
      have hpt := HPT.out
      unfold putA at hpt
      rw [HGD.out, HO.out, HGC.out, HNV.out] at hpt
      simp only [Prod.mk.injEq] at hpt
      obtain ⟨e1, e2, e3⟩ := hpt
      have hlen : ((Ps'.map (fun x => x.2.2)).set l (alS s P)).length = n := by rw [List.length_set, List.length_map]; exact HNN.out
      refine ⟨by rw [e2, e3]; rfl, _, ⟨g, _, Ps2, ?_, ?_, rfl, ?_, ?_⟩, fun k hk => HSET.out k (by rw [← HPS2.out] at hk; exact ArSet.page HPI.out hk), HF7.out⟩
      · rw [e1]; exact HA7.out
      · rw [e1, ← HPS2.out, List.map_set]
      · rw [e1]; simp only; rw [hlen]; have := HLT.out.1; omega
      · rw [e1]; simp only; rw [hlen]; exact HLT.out.2

    · go_simp
      refine hK.out _ _ HS3.out (fun hHeld2 => ?_)
      clear hK K hHeld
      have hHeld := hHeld2
      clear hHeld2
      try simp only [Act.put, List.setIfInBounds_toArray, List.set_cons_zero, List.set_cons_succ]
      refine wpAnyH_take (i := 6) (oi := { dst := some 42, op := Op.binOp BinOp.add 97 (Operand.tmp 41) (Operand.const (Value.int IntKind.u32 1)) 97, type := 97, pos := "arena.go:44", after := #[{ on := 5, ground := Ground.data }], guard := none }) (v := ?_) rfl (by kernel_rfl) (by kernel_rfl) (by kernel_rfl) (fun _ _ _ h => h) (Or.inl ⟨by rfl, ?_⟩) (by assumption) ?_
      rotate_left
      · intro W hSw
        obtain ⟨k1, k2, k3⟩ := hSw
        go_simp
        try with_reducible rfl
      simp only [Act.put, List.setIfInBounds_toArray, List.set_cons_zero, List.set_cons_succ]
      refine wpAnyH_ready (rs := [7]) (by kernel_rfl) (by simp) (AllReadyH.cons (o := { dst := some 43, op := Op.mapEntry 91 (Operand.tmp 39) (Operand.tmp 40), type := 0, pos := "arena.go:44", after := #[{ on := 3, ground := Ground.data }, { on := 4, ground := Ground.data }, { on := 0, ground := Ground.phase }, { on := 1, ground := Ground.phase }, { on := 2, ground := Ground.phase }, { on := 3, ground := Ground.phase }, { on := 4, ground := Ground.phase }, { on := 5, ground := Ground.textOnly Departure.mapOpAssignEntry }, { on := 6, ground := Ground.textOnly Departure.mapOpAssignEntry }], guard := none }) rfl (fun K hK => ?_) AllReadyH.nil)
      go_simp
      refine hK.out _ _ HS1.out (fun hHeld => ?_)
      clear hK K
      try simp only [Act.put, List.setIfInBounds_toArray, List.set_cons_zero, List.set_cons_succ]
      refine wpAnyH_take (i := 8) (oi := { dst := some 44, op := Op.extract (Operand.tmp 43) 1, type := 3, pos := "arena.go:44", after := #[{ on := 7, ground := Ground.data }], guard := none }) (v := ?_) rfl (by kernel_rfl) (by kernel_rfl) (by kernel_rfl) (fun _ _ _ h => h) (Or.inl ⟨by rfl, ?_⟩) (by assumption) ?_
      rotate_left
      · intro W hSw
        obtain ⟨k1, k2, k3⟩ := hSw
        go_simp
        try with_reducible rfl
      simp only [Act.put, List.setIfInBounds_toArray, List.set_cons_zero, List.set_cons_succ]
      refine wpAnyH_ready (rs := [9]) (by kernel_rfl) (by simp) (AllReadyH.cons (o := { dst := none, op := Op.entryStore 91 (Operand.tmp 39) (Operand.tmp 44) (Operand.tmp 42), type := 0, pos := "arena.go:44", after := #[{ on := 3, ground := Ground.data }, { on := 8, ground := Ground.data }, { on := 6, ground := Ground.data }, { on := 7, ground := Ground.chain }, { on := 0, ground := Ground.phase }, { on := 1, ground := Ground.phase }, { on := 2, ground := Ground.phase }, { on := 3, ground := Ground.phase }, { on := 4, ground := Ground.phase }, { on := 5, ground := Ground.phase }, { on := 6, ground := Ground.phase }, { on := 7, ground := Ground.phase }, { on := 8, ground := Ground.phase }], guard := none }) rfl (fun K hK => ?_) AllReadyH.nil)
      go_simp
      refine hK.out _ _ HS2.out (fun hHeld => ?_)
      clear hK K
      try simp only [Act.put, List.setIfInBounds_toArray, List.set_cons_zero, List.set_cons_succ]
      refine wpAnyH_done (by kernel_rfl) (NoPanic.normal ?_) _
      clear hm1 hm2 hL0 hL1 wn
      clear hHeld
      go_upto_region 10 with (fail)
      have hbd : Below W2.heap.size W2 W2.drew := Below.drew (Below.refl _ _)
      have HA7 := Lib.hid (HA6.out.later hbd)
      have HX7 := Lib.hid (HX6.out.later hbd)
      have HF7 := Lib.hid (HF6.out.trans (S' := ArSet a g v Ps) (FrS.of_below hbd) (fun i h => .inl h))
      have HS7 : Hid (SL a g px l o nn W2.drew) := by
        have h := look69 HA7.out.gens HA7.out.gok HRG.out
        rw [HZ.out, HGP.out] at h
        exact ⟨HA7.out.c.2.2.2, HX7.out.cell 0, HX7.out.cell 1, h⟩
      have HHD := Lib.hid (handle_x (l : Int) (o : Int) nn W2.drew (by omega) (by omega) (by omega) (by omega) HN0.out.1 HN0.out.2)
      clear hbd
      refine wp_region_noPanic ?_
      refine wp_region_held_drew (S := SL a g px l o nn) (by kernel_rfl) HS7.out (fun hHeld => ?_)
      refine wpAnyH_take (i := 0) (oi := { dst := some 45, op := Op.fieldAddr 96 (Operand.tmp 6) 0, type := 0, pos := "arena.go:45", after := #[], guard := none }) (v := ?_) rfl (by kernel_rfl) (by kernel_rfl) (by kernel_rfl) (fun _ _ _ h => h) (Or.inl ⟨by rfl, ?_⟩) (by assumption) ?_
      rotate_left
      · intro W hSw
        obtain ⟨k1, k2, k3, k4⟩ := hSw
        go_simp
        try with_reducible rfl
      simp only [Act.put, List.setIfInBounds_toArray, List.set_cons_zero, List.set_cons_succ]
      refine wpAnyH_take (i := 1) (oi := { dst := some 46, op := Op.load 87 (Operand.tmp 45), type := 87, pos := "arena.go:45", after := #[{ on := 0, ground := Ground.data }], guard := none }) (v := ?_) rfl (by kernel_rfl) (by kernel_rfl) (by kernel_rfl) (fun _ _ _ h => h) (Or.inl ⟨by rfl, ?_⟩) (by assumption) ?_
      rotate_left
      · intro W hSw
        obtain ⟨k1, k2, k3, k4⟩ := hSw
        go_simp
        try with_reducible rfl
      simp only [Act.put, List.setIfInBounds_toArray, List.set_cons_zero, List.set_cons_succ]
      refine wpAnyH_take (i := 2) (oi := { dst := some 47, op := Op.fieldAddr 96 (Operand.tmp 6) 1, type := 0, pos := "arena.go:45", after := #[], guard := none }) (v := ?_) rfl (by kernel_rfl) (by kernel_rfl) (by kernel_rfl) (fun _ _ _ h => h) (Or.inl ⟨by rfl, ?_⟩) (by assumption) ?_
      rotate_left
      · intro W hSw
        obtain ⟨k1, k2, k3, k4⟩ := hSw
        go_simp
        try with_reducible rfl
      simp only [Act.put, List.setIfInBounds_toArray, List.set_cons_zero, List.set_cons_succ]
      refine wpAnyH_take (i := 3) (oi := { dst := some 48, op := Op.load 87 (Operand.tmp 47), type := 87, pos := "arena.go:45", after := #[{ on := 2, ground := Ground.data }], guard := none }) (v := ?_) rfl (by kernel_rfl) (by kernel_rfl) (by kernel_rfl) (fun _ _ _ h => h) (Or.inl ⟨by rfl, ?_⟩) (by assumption) ?_
      rotate_left
      · intro W hSw
        obtain ⟨k1, k2, k3, k4⟩ := hSw
        go_simp
        try with_reducible rfl
      simp only [Act.put, List.setIfInBounds_toArray, List.set_cons_zero, List.set_cons_succ]
      refine wpAnyH_take (i := 4) (oi := { dst := some 49, op := Op.move (Operand.tmp 0), type := 66, pos := "arena.go:45", after := #[], guard := none }) (v := ?_) rfl (by kernel_rfl) (by kernel_rfl) (by kernel_rfl) (fun _ _ _ h => h) (Or.inl ⟨by rfl, ?_⟩) (by assumption) ?_
      rotate_left
      · intro W hSw
        obtain ⟨k1, k2, k3, k4⟩ := hSw
        go_simp
        try with_reducible rfl
      simp only [Act.put, List.setIfInBounds_toArray, List.set_cons_zero, List.set_cons_succ]
      refine wpAnyH_take (i := 5) (oi := { dst := some 50, op := Op.nilCheck (Operand.tmp 49), type := 0, pos := "arena.go:45", after := #[{ on := 4, ground := Ground.data }], guard := none }) (v := ?_) rfl (by kernel_rfl) (by kernel_rfl) (by kernel_rfl) (fun _ _ _ h => h) (Or.inl ⟨by rfl, ?_⟩) (by assumption) ?_
      rotate_left
      · intro W hSw
        obtain ⟨k1, k2, k3, k4⟩ := hSw
        go_simp
        try with_reducible rfl
      simp only [Act.put, List.setIfInBounds_toArray, List.set_cons_zero, List.set_cons_succ]
      refine wpAnyH_take (i := 6) (oi := { dst := some 51, op := Op.fieldAddr 93 (Operand.tmp 50) 3, type := 0, pos := "arena.go:45", after := #[{ on := 5, ground := Ground.data }], guard := none }) (v := ?_) rfl (by kernel_rfl) (by kernel_rfl) (by kernel_rfl) (fun _ _ _ h => h) (Or.inl ⟨by rfl, ?_⟩) (by assumption) ?_
      rotate_left
      · intro W hSw
        obtain ⟨k1, k2, k3, k4⟩ := hSw
        go_simp
        try with_reducible rfl
      simp only [Act.put, List.setIfInBounds_toArray, List.set_cons_zero, List.set_cons_succ]
      refine wpAnyH_take (i := 7) (oi := { dst := some 52, op := Op.load 91 (Operand.tmp 51), type := 91, pos := "arena.go:45", after := #[{ on := 6, ground := Ground.data }], guard := none }) (v := ?_) rfl (by kernel_rfl) (by kernel_rfl) (by kernel_rfl) (fun _ _ _ h => h) (Or.inl ⟨by rfl, ?_⟩) (by assumption) ?_
      rotate_left
      · intro W hSw
        obtain ⟨k1, k2, k3, k4⟩ := hSw
        go_simp
        try with_reducible rfl
      simp only [Act.put, List.setIfInBounds_toArray, List.set_cons_zero, List.set_cons_succ]
      refine wpAnyH_take (i := 8) (oi := { dst := some 53, op := Op.load 96 (Operand.tmp 6), type := 96, pos := "arena.go:45", after := #[], guard := none }) (v := ?_) rfl (by kernel_rfl) (by kernel_rfl) (by kernel_rfl) (fun _ _ _ h => h) (Or.inl ⟨by rfl, ?_⟩) (by assumption) ?_
      rotate_left
      · intro W hSw
        obtain ⟨k1, k2, k3, k4⟩ := hSw
        go_simp
        try with_reducible rfl
      simp only [Act.put, List.setIfInBounds_toArray, List.set_cons_zero, List.set_cons_succ]
      refine wpAnyH_take (i := 9) (oi := { dst := some 54, op := Op.lookup 91 (Operand.tmp 52) (Operand.tmp 53) false, type := 97, pos := "arena.go:45", after := #[{ on := 7, ground := Ground.data }, { on := 8, ground := Ground.data }], guard := none }) (v := ?_) rfl (by kernel_rfl) (by kernel_rfl) (by kernel_rfl) (fun _ _ _ h => h) (Or.inl ⟨by rfl, ?_⟩) (by assumption) ?_
      rotate_left
      · intro W hSw
        obtain ⟨k1, k2, k3, k4⟩ := hSw
        go_simp
        try with_reducible rfl
      simp only [Act.put, List.setIfInBounds_toArray, List.set_cons_zero, List.set_cons_succ]
      refine wpAnyH_ready (rs := [10]) (by kernel_rfl) (by simp) (AllReadyH.cons (o := { dst := some 55, op := Op.call { callee := Callee.value (Operand.func 47), args := #[Operand.tmp 46, Operand.tmp 48, Operand.tmp 54], argTypes := #[87, 87, 97] }, type := 24, pos := "arena.go:45", after := #[{ on := 1, ground := Ground.data }, { on := 3, ground := Ground.data }, { on := 9, ground := Ground.data }], guard := none }) rfl (fun K hK => ?_) AllReadyH.nil)
      refine step_callw (by rfl) 47 #[.int .u16 (l : Int), .int .u16 (o : Int), .int .u32 nn] (by go_simp) ?_
      refine (HHD.out).mono ?_
      rintro z w9 ⟨rfl, rfl⟩
      refine ⟨_, rfl, hK.out _ _ HS7.out (fun hHeld2 => ?_)⟩
      clear hK K hHeld HHD
      simp only [Act.put, List.setIfInBounds_toArray, List.set_cons_zero, List.set_cons_succ]
      refine wpAnyH_take (i := 11) (oi := { dst := some 2, op := Op.assign (Operand.tmp 55), type := 24, pos := "arena.go:45", after := #[{ on := 10, ground := Ground.data }, { on := 10, ground := Ground.chain }, { on := 0, ground := Ground.phase }, { on := 1, ground := Ground.phase }, { on := 2, ground := Ground.phase }, { on := 3, ground := Ground.phase }, { on := 4, ground := Ground.phase }, { on := 5, ground := Ground.phase }, { on := 6, ground := Ground.phase }, { on := 7, ground := Ground.phase }, { on := 8, ground := Ground.phase }, { on := 9, ground := Ground.phase }, { on := 10, ground := Ground.phase }], guard := none }) (v := ?_) rfl (by kernel_rfl) (by kernel_rfl) (by kernel_rfl) (fun _ _ _ h => h) (Or.inl ⟨by rfl, ?_⟩) (by assumption) ?_
      rotate_left
      · intro W hSw
        obtain ⟨k1, k2, k3, k4⟩ := hSw
        go_simp
        try with_reducible rfl
      simp only [Act.put, List.setIfInBounds_toArray, List.set_cons_zero, List.set_cons_succ]
      refine wpAnyH_take (i := 12) (oi := { dst := some 3, op := Op.assign (Operand.const (Value.int IntKind.i64 0)), type := 25, pos := "arena.go:45", after := #[{ on := 11, ground := Ground.chain }, { on := 0, ground := Ground.phase }, { on := 1, ground := Ground.phase }, { on := 2, ground := Ground.phase }, { on := 3, ground := Ground.phase }, { on := 4, ground := Ground.phase }, { on := 5, ground := Ground.phase }, { on := 6, ground := Ground.phase }, { on := 7, ground := Ground.phase }, { on := 8, ground := Ground.phase }, { on := 9, ground := Ground.phase }, { on := 10, ground := Ground.phase }, { on := 11, ground := Ground.phase }], guard := none }) (v := ?_) rfl (by kernel_rfl) (by kernel_rfl) (by kernel_rfl) (fun _ _ _ h => h) (Or.inl ⟨by rfl, ?_⟩) (by assumption) ?_
      rotate_left
      · intro W hSw
        obtain ⟨k1, k2, k3, k4⟩ := hSw
        go_simp
        try with_reducible rfl
      simp only [Act.put, List.setIfInBounds_toArray, List.set_cons_zero, List.set_cons_succ]
      refine wpAnyH_done (by kernel_rfl) (NoPanic.normal ?_) _
      go_wp2
      go_ret2
      have hpt := HPT.out
      unfold putA at hpt
      rw [HGD.out, HO.out, HGC.out, HNV.out] at hpt
      simp only [Prod.mk.injEq] at hpt
      obtain ⟨e1, e2, e3⟩ := hpt
      have hlen : ((Ps'.map (fun x => x.2.2)).set l (alS s P)).length = n := by rw [List.length_set, List.length_map]; exact HNN.out
      refine ⟨by rw [e2, e3]; rfl, _, ⟨g, _, Ps2, ?_, ?_, rfl, ?_, ?_⟩, fun k hk => HSET.out k (by rw [← HPS2.out] at hk; exact ArSet.page HPI.out hk), HF7.out⟩
      · rw [e1]; exact HA7.out
      · rw [e1, ← HPS2.out, List.map_set]
      · rw [e1]; simp only; rw [hlen]; have := HLT.out.1; omega
      · rw [e1]; simp only; rw [hlen]; exact HLT.out.2
end Go.Proofs.Ytbncpfkoeahhpaa

/- Used, Pages, Slot. -/
namespace Go.Proofs.Ytbncpfkoeahhpaa
open Go.ChangeShapes Go.WideShapes Go.ChangeAt Go.RowKit Go.Maps
set_option linter.unusedVariables false
set_option linter.unusedSimpArgs false

def sumP (L : List PS) (k : Nat) : Nat := ((L.take k).map (fun P => P.2.1.length)).sum
theorem sumP_succ {L : List PS} {k : Nat} (h : k < L.length) : sumP L (k + 1) = sumP L k + (L[k]).2.1.length := by
  unfold sumP
  rw [List.take_add_one, List.getElem?_eq_getElem h, List.map_append, List.sum_append]
  simp
theorem sumP_le {L : List PS} (h : ∀ P ∈ L, P.2.1.length ≤ 4096) (k : Nat) (hk : k ≤ L.length) : sumP L k ≤ 4096 * k := by
  induction k with
  | zero => simp [sumP]
  | succ k ih =>
    rw [sumP_succ (by omega)]
    have := ih (by omega)
    have := h _ (List.getElem_mem (show k < L.length by omega))
    omega
set_option maxRecDepth 100000 in
set_option maxHeartbeats 4000000 in
theorem arused_any (B a s : Nat) (st : AS) (S : Nat → Prop) (w : World) (h : AR w B a s st S) : Calls Try.prog 38 #[.pointer (some ⟨a, 0, none⟩)] w fun e w' => e = .returned (.int .i64 (usA st : Nat)) ∧ w = w' := by
  obtain ⟨g, v, Ps, ha, hm, _, _, hln⟩ := h
  have hl : st.2.1.length = Ps.length := by rw [← hm, List.length_map]
  have HU : Hid (usA st = sumP st.2.1 Ps.length) := by
    show _ = _
    unfold usA sumP
    rw [← hl, List.take_length]
  rw [HU.out]
  have HM := Lib.hid hm
  have H := Lib.hid ha
  have HL : Hid (st.2.1.length = Ps.length) := hl
  obtain ⟨AV, cV, hv, _⟩ := Ow.sl ha.row
  subst hv
  have c1 := ha.c.2.1
  have hn : Ps.length ≤ 4096 := by omega
  have HB : Hid (∀ P ∈ st.2.1, P.2.1.length ≤ 4096) := fun P hP => by
    rw [← hm] at hP
    obtain ⟨x, hx, rfl⟩ := List.mem_map.1 hP
    exact (Pg.at_ (ha.pgs x hx)).ok.len
  clear ha hm hl hln HU
  generalize st.2.1 = L at *
  go_enter Try.func38, Try.ntmps38
  go_wp2
  go_loop [3, 13] (fun m i => ∃ k : Nat, k ≤ Ps.length ∧ i = .int .i64 k ∧ m = .int .i64 (sumP L k : Nat)) (fun _ i => Ps.length - (intOf i).toNat)
  case atStart => exact ⟨0, Nat.zero_le _, rfl, rfl⟩
  case round =>
    obtain ⟨k, hk, rfl, rfl⟩ := hrel
    by_cases hlt : k < Ps.length
    · have d1 : decide ((k : Int) < (Ps.length : Int)) = true := decide_eq_true (by omega)
      have wk : IntKind.i64.wrap ((k : Int) + 1) = (k : Int) + 1 := IntWalk.i64_in _ (by omega)
      obtain ⟨gr, c, hv, hgr, hc⟩ := H.out.at_ hlt
      cases hv
      have i5 := idx68 gr Ps.length cV k (k : Int) rfl hlt
      have HU := Lib.hid (used_any B (Ps[k]).1 (Ps[k]).2.1 _ _ _ (Ps[k]).2.2.2.1 (Ps[k]).2.2.2.2.1 w (Pg.at_ (H.out.pgs _ (List.getElem_mem hlt))))
      have HS := Lib.hid (sumP_succ (L := L) (k := k) (by rw [HL.out]; exact hlt))
      have HE : Hid ((L[k]'(by rw [HL.out]; exact hlt)) = (Ps[k]).2.2) := by
        have h6 : L = Ps.map (fun x => x.2.2) := HM.out.symm
        subst h6
        show _ = _
        simp
      have hb := sumP_le HB.out k (by rw [HL.out]; exact hk)
      have hb2 := HB.out _ (List.getElem_mem (show k < L.length by rw [HL.out]; exact hlt))
      rw [HE.out] at hb2 HS
      obtain ⟨pp, hpp⟩ : ∃ pp, (Ps[k]).1 = pp := ⟨_, rfl⟩
      rw [hpp] at HU hc
      obtain ⟨m2, hm2⟩ : ∃ m2, (Ps[k]).2.2.2.1.length = m2 := ⟨_, rfl⟩
      rw [hm2] at HU HS hb2
      obtain ⟨m1, hm1⟩ : ∃ m1, sumP L k = m1 := ⟨_, rfl⟩
      rw [hm1] at HS hb
      rw [hm1]
      have wm : IntKind.i64.wrap ((m1 : Int) + (m2 : Int)) = (m1 : Int) + (m2 : Int) := IntWalk.i64_in _ (by omega)
      clear hpp hm1 hm2 HE hgr c1
      go_wp2_with fail
      refine HU.out.mono ?_
      rintro e w2 ⟨rfl, rfl⟩
      clear HU hc i5
      go_wp2
      go_round
      case rel => exact ⟨k + 1, by omega, by go_num, by rw [HS.out]; go_num⟩
      case measure => simp [intOf]; omega
    · obtain rfl : k = Ps.length := by omega
      have d1 : decide ((Ps.length : Int) < (Ps.length : Int)) = false := decide_eq_false (by omega)
      go_wp2
      go_ret
      exact ⟨rfl, rfl⟩
end Go.Proofs.Ytbncpfkoeahhpaa

/- Copy. -/
namespace Go.Proofs.Ytbncpfkoeahhpaa
open Go.ChangeShapes Go.WideShapes Go.ChangeAt Go.RowKit Go.Maps Go.Shelf
set_option linter.unusedVariables false
set_option linter.unusedSimpArgs false

theorem gclone_any (b n : Nat) (G : List gn.Ct) (w : World) (h : w.ownsMap Try.prog 96 gn.R3 b n (gn.dm G)) : Calls Try.prog 59 #[.map (some b)] w fun e w' => e = .returned (.map (some w.heap.size)) ∧ w'.ownsMap Try.prog 96 gn.R3 w.heap.size n (gn.dm G) ∧ Below w.heap.size w w' := by
  have hc := AnyW.maps_Clone_owns Try.gensClone 96 gn.R3 b n (gn.dm G) w h
  change Calls Try.prog 59 _ _ _ at hc
  exact hc.mono fun e w' ⟨h1, h2, _, h4⟩ => ⟨h1, h2, h4⟩
theorem built71c (s low : Int) (r : Nat) : Try.prog.built 93 [(0, .int .i64 s), (2, .int .i64 low), (3, .map (some r))] = some #[.int .i64 s, .slice none 0 0, .int .i64 low, .map (some r)] := by kernel_rfl
abbrev S3 (a s low g : Nat) (W : World) : Prop := W.cell? ⟨a, 0, none⟩ = some (.int .i64 (s : Int)) ∧ W.cell? ⟨a, 2, none⟩ = some (.int .i64 (low : Int)) ∧ W.cell? ⟨a, 3, none⟩ = some (.map (some g))
theorem S3.later {a s low g : Nat} {W W' : World} (h : S3 a s low g W) (hb : Below W.heap.size W W') : S3 a s low g W' :=
  ⟨(hb.cell (p := ⟨a, 0, none⟩) (lt_of_cell h.1)).trans h.1, (hb.cell (p := ⟨a, 2, none⟩) (lt_of_cell h.2.1)).trans h.2.1, (hb.cell (p := ⟨a, 3, none⟩) (lt_of_cell h.2.2)).trans h.2.2⟩
def CpA (s : Nat) (st : AS) (w : World) (e : Ending) (w' : World) : Prop := ∃ a S, e = .returned (.pointer (some ⟨a, 0, none⟩)) ∧ AR w' w.heap.size a s st S ∧ Below w.heap.size w w'
/-- the header of the row of pages: what it is there -/
abbrev SO (q : Nat) (W : World) : Prop := W.cell? ⟨q, 1, none⟩ = some (oldc W ⟨q, 1, none⟩) ∧ W.frozen? ⟨q, 1, none⟩ = false
set_option maxRecDepth 100000 in
set_option maxHeartbeats 8000000 in
theorem arcopy_any (B a s : Nat) (st : AS) (S : Nat → Prop) (w : World) (h : AR w B a s st S) : Calls Try.prog 39 #[.pointer (some ⟨a, 0, none⟩)] w (CpA s st w) := by
  obtain ⟨g, v, Ps, ha, hm, _, hlo, hln⟩ := h
  obtain ⟨low, L, G⟩ := st
  simp only at ha hm hlo hln
  have hl : L.length = Ps.length := by rw [← hm, List.length_map]
  have H := Lib.hid ha
  have HM := Lib.hid hm
  have HLL : Hid (L.length = Ps.length) := hl
  have HLO : Hid (low ≤ L.length ∧ L.length ≤ 4096) := ⟨hlo, hln⟩
  have hn : Ps.length ≤ 4096 := by omega
  have hK0 : S3 a s low g w.drew := ⟨ha.c.1, ha.c.2.2.1, ha.c.2.2.2⟩
  have HK0 := Lib.hid hK0
  obtain ⟨AV, cV, hv, _⟩ := Ow.sl ha.row
  subst hv
  clear ha hm hl hlo hln hK0
  go_enter Try.func39, Try.ntmps39
  go_upto_region 3 with (fail)
  have hbd : Below w.heap.size w w.drew := Below.drew (Below.refl _ _)
  have HB1 := Lib.hid hbd
  have HCL := Lib.hid (gclone_any g G.length G w.drew (H.out.later hbd).gens.2)
  clear hbd
  refine wp_region_noPanic ?_
  refine wp_region_held_drew (S := S3 a s low g) (by kernel_rfl) HK0.out (fun hHeld => ?_)
  refine wpAnyH_take (i := 0) (oi := { dst := some 8, op := Op.move (Operand.tmp 0), type := 66, pos := "arena.go:151", after := #[], guard := none }) (v := ?_) rfl (by kernel_rfl) (by kernel_rfl) (by kernel_rfl) (fun _ _ _ h => h) (Or.inl ⟨by rfl, ?_⟩) (by assumption) ?_
  rotate_left
  · intro W hSw
    obtain ⟨k0, k2, k3⟩ := hSw
    go_simp
    try with_reducible rfl
  simp only [Act.put, List.setIfInBounds_toArray, List.set_cons_zero, List.set_cons_succ]
  refine wpAnyH_take (i := 1) (oi := { dst := some 9, op := Op.nilCheck (Operand.tmp 8), type := 0, pos := "arena.go:151", after := #[{ on := 0, ground := Ground.data }], guard := none }) (v := ?_) rfl (by kernel_rfl) (by kernel_rfl) (by kernel_rfl) (fun _ _ _ h => h) (Or.inl ⟨by rfl, ?_⟩) (by assumption) ?_
  rotate_left
  · intro W hSw
    obtain ⟨k0, k2, k3⟩ := hSw
    go_simp
    try with_reducible rfl
  simp only [Act.put, List.setIfInBounds_toArray, List.set_cons_zero, List.set_cons_succ]
  refine wpAnyH_take (i := 2) (oi := { dst := some 10, op := Op.fieldAddr 93 (Operand.tmp 9) 0, type := 0, pos := "arena.go:151", after := #[{ on := 1, ground := Ground.data }], guard := none }) (v := ?_) rfl (by kernel_rfl) (by kernel_rfl) (by kernel_rfl) (fun _ _ _ h => h) (Or.inl ⟨by rfl, ?_⟩) (by assumption) ?_
  rotate_left
  · intro W hSw
    obtain ⟨k0, k2, k3⟩ := hSw
    go_simp
    try with_reducible rfl
  simp only [Act.put, List.setIfInBounds_toArray, List.set_cons_zero, List.set_cons_succ]
  refine wpAnyH_take (i := 3) (oi := { dst := some 11, op := Op.load 3 (Operand.tmp 10), type := 3, pos := "arena.go:151", after := #[{ on := 2, ground := Ground.data }], guard := none }) (v := ?_) rfl (by kernel_rfl) (by kernel_rfl) (by kernel_rfl) (fun _ _ _ h => h) (Or.inl ⟨by rfl, ?_⟩) (by assumption) ?_
  rotate_left
  · intro W hSw
    obtain ⟨k0, k2, k3⟩ := hSw
    go_simp
    try with_reducible rfl
  simp only [Act.put, List.setIfInBounds_toArray, List.set_cons_zero, List.set_cons_succ]
  refine wpAnyH_take (i := 4) (oi := { dst := some 12, op := Op.move (Operand.tmp 0), type := 66, pos := "arena.go:151", after := #[], guard := none }) (v := ?_) rfl (by kernel_rfl) (by kernel_rfl) (by kernel_rfl) (fun _ _ _ h => h) (Or.inl ⟨by rfl, ?_⟩) (by assumption) ?_
  rotate_left
  · intro W hSw
    obtain ⟨k0, k2, k3⟩ := hSw
    go_simp
    try with_reducible rfl
  simp only [Act.put, List.setIfInBounds_toArray, List.set_cons_zero, List.set_cons_succ]
  refine wpAnyH_take (i := 5) (oi := { dst := some 13, op := Op.nilCheck (Operand.tmp 12), type := 0, pos := "arena.go:151", after := #[{ on := 4, ground := Ground.data }], guard := none }) (v := ?_) rfl (by kernel_rfl) (by kernel_rfl) (by kernel_rfl) (fun _ _ _ h => h) (Or.inl ⟨by rfl, ?_⟩) (by assumption) ?_
  rotate_left
  · intro W hSw
    obtain ⟨k0, k2, k3⟩ := hSw
    go_simp
    try with_reducible rfl
  simp only [Act.put, List.setIfInBounds_toArray, List.set_cons_zero, List.set_cons_succ]
  refine wpAnyH_take (i := 6) (oi := { dst := some 14, op := Op.fieldAddr 93 (Operand.tmp 13) 2, type := 0, pos := "arena.go:151", after := #[{ on := 5, ground := Ground.data }], guard := none }) (v := ?_) rfl (by kernel_rfl) (by kernel_rfl) (by kernel_rfl) (fun _ _ _ h => h) (Or.inl ⟨by rfl, ?_⟩) (by assumption) ?_
  rotate_left
  · intro W hSw
    obtain ⟨k0, k2, k3⟩ := hSw
    go_simp
    try with_reducible rfl
  simp only [Act.put, List.setIfInBounds_toArray, List.set_cons_zero, List.set_cons_succ]
  refine wpAnyH_take (i := 7) (oi := { dst := some 15, op := Op.load 3 (Operand.tmp 14), type := 3, pos := "arena.go:151", after := #[{ on := 6, ground := Ground.data }], guard := none }) (v := ?_) rfl (by kernel_rfl) (by kernel_rfl) (by kernel_rfl) (fun _ _ _ h => h) (Or.inl ⟨by rfl, ?_⟩) (by assumption) ?_
  rotate_left
  · intro W hSw
    obtain ⟨k0, k2, k3⟩ := hSw
    go_simp
    try with_reducible rfl
  simp only [Act.put, List.setIfInBounds_toArray, List.set_cons_zero, List.set_cons_succ]
  refine wpAnyH_take (i := 8) (oi := { dst := some 16, op := Op.move (Operand.tmp 0), type := 66, pos := "arena.go:151", after := #[], guard := none }) (v := ?_) rfl (by kernel_rfl) (by kernel_rfl) (by kernel_rfl) (fun _ _ _ h => h) (Or.inl ⟨by rfl, ?_⟩) (by assumption) ?_
  rotate_left
  · intro W hSw
    obtain ⟨k0, k2, k3⟩ := hSw
    go_simp
    try with_reducible rfl
  simp only [Act.put, List.setIfInBounds_toArray, List.set_cons_zero, List.set_cons_succ]
  refine wpAnyH_take (i := 9) (oi := { dst := some 17, op := Op.nilCheck (Operand.tmp 16), type := 0, pos := "arena.go:151", after := #[{ on := 8, ground := Ground.data }], guard := none }) (v := ?_) rfl (by kernel_rfl) (by kernel_rfl) (by kernel_rfl) (fun _ _ _ h => h) (Or.inl ⟨by rfl, ?_⟩) (by assumption) ?_
  rotate_left
  · intro W hSw
    obtain ⟨k0, k2, k3⟩ := hSw
    go_simp
    try with_reducible rfl
  simp only [Act.put, List.setIfInBounds_toArray, List.set_cons_zero, List.set_cons_succ]
  refine wpAnyH_take (i := 10) (oi := { dst := some 18, op := Op.fieldAddr 93 (Operand.tmp 17) 3, type := 0, pos := "arena.go:151", after := #[{ on := 9, ground := Ground.data }], guard := none }) (v := ?_) rfl (by kernel_rfl) (by kernel_rfl) (by kernel_rfl) (fun _ _ _ h => h) (Or.inl ⟨by rfl, ?_⟩) (by assumption) ?_
  rotate_left
  · intro W hSw
    obtain ⟨k0, k2, k3⟩ := hSw
    go_simp
    try with_reducible rfl
  simp only [Act.put, List.setIfInBounds_toArray, List.set_cons_zero, List.set_cons_succ]
  refine wpAnyH_take (i := 11) (oi := { dst := some 19, op := Op.load 91 (Operand.tmp 18), type := 91, pos := "arena.go:151", after := #[{ on := 10, ground := Ground.data }], guard := none }) (v := ?_) rfl (by kernel_rfl) (by kernel_rfl) (by kernel_rfl) (fun _ _ _ h => h) (Or.inl ⟨by rfl, ?_⟩) (by assumption) ?_
  rotate_left
  · intro W hSw
    obtain ⟨k0, k2, k3⟩ := hSw
    go_simp
    try with_reducible rfl
  simp only [Act.put, List.setIfInBounds_toArray, List.set_cons_zero, List.set_cons_succ]
  refine wpAnyH_ready (rs := [12]) (by kernel_rfl) (by simp) (AllReadyH.cons (o := { dst := some 20, op := Op.call { callee := Callee.value (Operand.func 59), args := #[Operand.tmp 19], argTypes := #[91] }, type := 91, pos := "arena.go:151", after := #[{ on := 11, ground := Ground.data }], guard := none }) rfl (fun K hK => ?_) AllReadyH.nil)
  refine step_callw (by rfl) 59 #[.map (some g)] (by go_simp) ?_
  refine (HCL.out).mono ?_
  rintro z w1 ⟨rfl, ho, hb⟩
  have HB2 := Lib.hid (stepB HB1.out hb)
  have HO := Lib.hid ho
  have HK1 := Lib.hid (HK0.out.later hb)
  refine ⟨_, rfl, hK.out _ _ HK1.out (fun hHeld2 => ?_)⟩
  clear hK K hHeld HCL ho hb
  simp only [Act.put, List.setIfInBounds_toArray, List.set_cons_zero, List.set_cons_succ]
  obtain ⟨gg, hgg⟩ : ∃ gg, w.drew.heap.size = gg := ⟨_, rfl⟩
  rw [hgg] at HO
  rw [hgg]
  have HGG : Hid (w.heap.size ≤ gg ∧ gg < w1.heap.size) := ⟨by rw [← hgg]; exact HB1.out.size, HO.out.lt⟩
  clear hgg
  have hbt := built71c (s : Int) (low : Int) gg
  refine wpAnyH_take (i := 13) (oi := { dst := some 21, op := Op.build 93 #[(0, Operand.tmp 11), (2, Operand.tmp 15), (3, Operand.tmp 20)], type := 93, pos := "arena.go:151", after := #[{ on := 3, ground := Ground.data }, { on := 7, ground := Ground.data }, { on := 12, ground := Ground.data }], guard := none }) (v := .agg #[.int .i64 (s : Int), .slice none 0 0, .int .i64 (low : Int), .map (some gg)]) rfl (by kernel_rfl) (by kernel_rfl) (by kernel_rfl) (fun _ _ _ h => h) (Or.inl ⟨by rfl, fun W hSw => ?_⟩) hHeld2 ?_
  · clear hSw
    go_simp
    try with_reducible rfl
  try simp only [Act.put, List.setIfInBounds_toArray, List.set_cons_zero, List.set_cons_succ]
  refine wpAnyH_ready (rs := [14]) (by kernel_rfl) (by simp) (AllReadyH.cons (o := { dst := some 22, op := Op.box 93 (Operand.tmp 21), type := 66, pos := "arena.go:151", after := #[{ on := 13, ground := Ground.data }], guard := none }) rfl (fun K hK => ?_) AllReadyH.nil)
  have hbx : Below w1.heap.size w1 (w1.alloc (.cells #[.int .i64 (s : Int), .slice none 0 0, .int .i64 (low : Int), .map (some gg)] 93)) := (Below.refl _ _).alloc (Nat.le_refl _) _
  have HK2 := Lib.hid (HK1.out.later hbx)
  have HB3 := Lib.hid (stepB HB2.out hbx)
  have HOA : Hid (Ar (w1.alloc (.cells #[.int .i64 (s : Int), .slice none 0 0, .int .i64 (low : Int), .map (some gg)] 93)) w.heap.size w1.heap.size gg (.slice none 0 0) low s [] G) :=
    ⟨HB2.out.size, Blk.new _ _ _, Ow.none _ _ _, gn.MapAt.later ⟨HGG.out.1, HO.out⟩ hbx, H.out.gok, (fun x hx => by cases hx), List.Pairwise.nil, (fun x hx => by cases hx)⟩
  clear hbx hbt
  go_simp
  refine hK.out _ _ HK2.out (fun hHeld3 => ?_)
  clear hK K hHeld2
  try simp only [Act.put, List.setIfInBounds_toArray, List.set_cons_zero, List.set_cons_succ]
  refine wpAnyH_take (i := 15) (oi := { dst := some 3, op := Op.assign (Operand.tmp 22), type := 66, pos := "arena.go:151", after := #[{ on := 14, ground := Ground.data }, { on := 12, ground := Ground.chain }, { on := 0, ground := Ground.phase }, { on := 1, ground := Ground.phase }, { on := 2, ground := Ground.phase }, { on := 3, ground := Ground.phase }, { on := 4, ground := Ground.phase }, { on := 5, ground := Ground.phase }, { on := 6, ground := Ground.phase }, { on := 7, ground := Ground.phase }, { on := 8, ground := Ground.phase }, { on := 9, ground := Ground.phase }, { on := 10, ground := Ground.phase }, { on := 11, ground := Ground.phase }, { on := 12, ground := Ground.phase }, { on := 13, ground := Ground.phase }, { on := 14, ground := Ground.phase }], guard := none }) (v := ?_) rfl (by kernel_rfl) (by kernel_rfl) (by kernel_rfl) (fun _ _ _ h => h) (Or.inl ⟨by rfl, ?_⟩) (by assumption) ?_
  rotate_left
  · intro W hSw
    clear hSw
    go_simp
    try with_reducible rfl
  simp only [Act.put, List.setIfInBounds_toArray, List.set_cons_zero, List.set_cons_succ]
  refine wpAnyH_done (by kernel_rfl) (NoPanic.normal ?_) _
  clear hHeld3
  generalize w1.alloc (.cells #[.int .i64 (s : Int), .slice none 0 0, .int .i64 (low : Int), .map (some gg)] 93) = w2 at *
  obtain ⟨oq, hoq⟩ : ∃ oq, w1.heap.size = oq := ⟨_, rfl⟩
  rw [hoq] at HOA HGG
  rw [hoq]
  clear hoq HO HK0 HK1 HK2 HB2 HB1
  have c1 := (H.out.later HB3.out).c.2.1
  go_wp2
  go_loopw [28] (fun i wr => ∃ (k : Nat) (vO : Value) (PsO : List Pe), k ≤ Ps.length ∧ i = .int .i64 k ∧ Ar wr w.heap.size oq gg vO low s PsO G ∧ PsO.map (fun x => x.2.2) = (Ps.map (fun x => x.2.2)).take k ∧ Below w.heap.size w wr) (fun i _ => Ps.length - (intOf i).toNat)
  case atStart => exact ⟨0, _, [], Nat.zero_le _, rfl, HOA.out, rfl, HB3.out⟩
  case round =>
    obtain ⟨w3, rfl⟩ : ∃ w3 : World, w3 = wr := ⟨_, rfl⟩
    obtain ⟨k, vO, PsO, hk, rfl, ho, hmo, hb⟩ := hrel
    have HOO := Lib.hid ho
    have HMO := Lib.hid hmo
    have HB4 := Lib.hid hb
    clear ho hmo hb HOA HB3 c1
    by_cases hlt : k < Ps.length
    · have d1 : decide ((k : Int) < (Ps.length : Int)) = true := decide_eq_true (by omega)
      have wk : IntKind.i64.wrap ((k : Int) + 1) = (k : Int) + 1 := IntWalk.i64_in _ (by omega)
      obtain ⟨gr, c, hv, hgr, hc⟩ := (H.out.later HB4.out).at_ hlt
      cases hv
      have i5 := idx68 gr Ps.length cV k (k : Int) rfl hlt
      have HPG := Lib.hid ((H.out.later HB4.out).pgs _ (List.getElem_mem hlt))
      have hln : PsO.length = k := by
        have := congrArg List.length HMO.out
        rw [List.length_map, List.length_take, List.length_map] at this
        omega
      have HLN := Lib.hid hln
      have HPE : Hid ((Ps.map (fun x => x.2.2)).take (k + 1) = (Ps.map (fun x => x.2.2)).take k ++ [(Ps[k]).2.2]) := by
        show _ = _
        rw [List.take_add_one, List.getElem?_map, List.getElem?_eq_getElem hlt]; rfl
      generalize Ps[k] = xx at *
      obtain ⟨pp, pb, P⟩ := xx
      simp only at hc
      replace HPG : Hid (PgS w3 B pp pb s P) := HPG
      clear hgr hln
      go_upto_region 7 with (fail)
      clear hc i5
      refine wp_region_noPanic ?_
      have hbd : Below w3.heap.size w3 w3.drew := Below.drew (Below.refl _ _)
      have HO5 := Lib.hid (HOO.out.later hbd)
      have HP5 := Lib.hid (HPG.out.later hbd)
      have HB5 := Lib.hid (stepB HB4.out hbd)
      clear hbd
      have HSO : Hid (∀ W v', Ar W w.heap.size oq gg v' low s PsO G → SO oq W) := fun W v' h => ⟨oldc_of h.c.2.1, h.blk.frozen 1⟩
      refine wp_region_held_drew (S := SO oq) (by kernel_rfl) (HSO.out _ _ HO5.out) (fun hHeld => ?_)
      generalize w3.drew = w5 at *
      refine wpAnyH_take (i := 0) (oi := { dst := some 32, op := Op.move (Operand.tmp 3), type := 66, pos := "arena.go:153", after := #[], guard := none }) (v := ?_) rfl (by kernel_rfl) (by kernel_rfl) (by kernel_rfl) (fun _ _ _ h => h) (Or.inl ⟨by rfl, ?_⟩) (by assumption) ?_
      rotate_left
      · intro W hSw
        clear hSw
        go_simp
        try with_reducible rfl
      simp only [Act.put, List.setIfInBounds_toArray, List.set_cons_zero, List.set_cons_succ]
      refine wpAnyH_take (i := 1) (oi := { dst := some 33, op := Op.move (Operand.tmp 3), type := 66, pos := "arena.go:153", after := #[], guard := none }) (v := ?_) rfl (by kernel_rfl) (by kernel_rfl) (by kernel_rfl) (fun _ _ _ h => h) (Or.inl ⟨by rfl, ?_⟩) (by assumption) ?_
      rotate_left
      · intro W hSw
        clear hSw
        go_simp
        try with_reducible rfl
      simp only [Act.put, List.setIfInBounds_toArray, List.set_cons_zero, List.set_cons_succ]
      refine wpAnyH_take (i := 2) (oi := { dst := some 34, op := Op.nilCheck (Operand.tmp 33), type := 0, pos := "arena.go:153", after := #[{ on := 1, ground := Ground.data }], guard := none }) (v := ?_) rfl (by kernel_rfl) (by kernel_rfl) (by kernel_rfl) (fun _ _ _ h => h) (Or.inl ⟨by rfl, ?_⟩) (by assumption) ?_
      rotate_left
      · intro W hSw
        clear hSw
        go_simp
        try with_reducible rfl
      simp only [Act.put, List.setIfInBounds_toArray, List.set_cons_zero, List.set_cons_succ]
      refine wpAnyH_take (i := 3) (oi := { dst := some 35, op := Op.fieldAddr 93 (Operand.tmp 34) 1, type := 0, pos := "arena.go:153", after := #[{ on := 2, ground := Ground.data }], guard := none }) (v := ?_) rfl (by kernel_rfl) (by kernel_rfl) (by kernel_rfl) (fun _ _ _ h => h) (Or.inl ⟨by rfl, ?_⟩) (by assumption) ?_
      rotate_left
      · intro W hSw
        clear hSw
        go_simp
        try with_reducible rfl
      simp only [Act.put, List.setIfInBounds_toArray, List.set_cons_zero, List.set_cons_succ]
      refine wpAnyH_take (i := 5) (oi := { dst := some 37, op := Op.move (Operand.tmp 5), type := 89, pos := "arena.go:153", after := #[], guard := none }) (v := ?_) rfl (by kernel_rfl) (by kernel_rfl) (by kernel_rfl) (fun _ _ _ h => h) (Or.inl ⟨by rfl, ?_⟩) (by assumption) ?_
      rotate_left
      · intro W hSw
        clear hSw
        go_simp
        try with_reducible rfl
      simp only [Act.put, List.setIfInBounds_toArray, List.set_cons_zero, List.set_cons_succ]
      refine wpAnyH_ready (rs := [4, 6]) (by kernel_rfl) (by simp) (AllReadyH.cons (o := { dst := some 36, op := Op.load 90 (Operand.tmp 35), type := 90, pos := "arena.go:153", after := #[{ on := 3, ground := Ground.data }], guard := none }) rfl (fun K hK => ?_) (AllReadyH.cons (o := { dst := some 38, op := Op.call { callee := Callee.value (Operand.func 60), args := #[Operand.tmp 37], argTypes := #[89] }, type := 89, pos := "arena.go:153", after := #[{ on := 5, ground := Ground.data }], guard := none }) rfl (fun K hK => ?_) AllReadyH.nil))
      rotate_left
      · refine step_callw (by rfl) 60 #[.pointer (some ⟨pp, 0, none⟩)] (by go_simp) ?_
        refine (copy_any B pp pb s P.1 P.2.1 P.2.2.1 P.2.2.2 w5 HP5.out).mono ?_
        rintro z w6 ⟨q, qb, rfl, hpq, hb⟩
        have HPQ : Hid (PgS w6 w5.heap.size q qb s P) := Lib.hid hpq
        have HZQ : Hid (∀ x ∈ PsO, x.1 < w5.heap.size ∧ x.2.1 < w5.heap.size) := fun x hx => ⟨(Pg.at_ (HO5.out.pgs x hx)).plt, (Pg.at_ (HO5.out.pgs x hx)).blt⟩
        have HZG : Hid (gg < w5.heap.size ∧ w.heap.size ≤ w5.heap.size) := ⟨HO5.out.gens.2.lt, HB5.out.size⟩
        replace HO5 := Lib.hid (HO5.out.later hb)
        replace HB5 := Lib.hid (stepB HB5.out hb)
        clear hpq hb HP5
        refine ⟨_, rfl, hK.out _ _ (HSO.out _ _ HO5.out) (fun hHeld2 => ?_)⟩
        clear hK K hHeld
        have hHeld := hHeld2
        clear hHeld2
        try simp only [Act.put, List.setIfInBounds_toArray, List.set_cons_zero, List.set_cons_succ]
        obtain ⟨z5, hz5⟩ : ∃ z5, w5.heap.size = z5 := ⟨_, rfl⟩
        rw [hz5] at HPQ HZQ HZG
        clear hz5
        obtain ⟨w5, hw5⟩ : ∃ x, w6 = x := ⟨_, rfl⟩
        subst hw5
        refine wpAnyH_ready (rs := [4, 7]) (by kernel_rfl) (by simp) (AllReadyH.cons (o := { dst := some 36, op := Op.load 90 (Operand.tmp 35), type := 90, pos := "arena.go:153", after := #[{ on := 3, ground := Ground.data }], guard := none }) rfl (fun K hK => ?_) (AllReadyH.cons (o := { dst := some 39, op := Op.buildSlice 90 1 #[(0, Operand.tmp 38)], type := 90, pos := "arena.go:153", after := #[{ on := 6, ground := Ground.data }], guard := none }) rfl (fun K hK => ?_) AllReadyH.nil))
        rotate_left
        · have hbx : Below w6.heap.size w6 (w6.alloc (.cells #[.pointer (some ⟨q, 0, none⟩)] 89)) := (Below.refl _ _).alloc (Nat.le_refl _) _
          have HX : Hid (Sl pv (w6.alloc (.cells #[.pointer (some ⟨q, 0, none⟩)] 89)) (some ⟨w6.heap.size, 0, none⟩) 1 1 [q]) := Blk.sl (enc := pv) (xs := [q]) (Blk.new w6 #[.pointer (some ⟨q, 0, none⟩)] 89)
          replace HO5 := Lib.hid (HO5.out.later hbx)
          replace HB5 := Lib.hid (stepB HB5.out hbx)
          replace HPQ := Lib.hid (HPQ.out.later hbx)
          clear hbx
          go_simp
          refine hK.out _ _ (HSO.out _ _ HO5.out) (fun hHeld2 => ?_)
          clear hK K
          try clear hHeld
          have hHeld := hHeld2
          clear hHeld2
          try simp only [Act.put, List.setIfInBounds_toArray, List.set_cons_zero, List.set_cons_succ]
          generalize w6.alloc (.cells #[.pointer (some ⟨q, 0, none⟩)] 89) = w7 at *
          generalize w6.heap.size = xq at *
          refine wpAnyH_ready (rs := [4]) (by kernel_rfl) (by simp) (AllReadyH.cons (o := { dst := some 36, op := Op.load 90 (Operand.tmp 35), type := 90, pos := "arena.go:153", after := #[{ on := 3, ground := Ground.data }], guard := none }) rfl (fun K hK => ?_) AllReadyH.nil)
          have c1 := HO5.out.c.2.1
          clear hHeld
          go_simp
          clear c1
          refine hK.out _ _ (HSO.out _ _ HO5.out) (fun hHeld2 => ?_)
          clear hK K
          try clear hHeld
          have hHeld := hHeld2
          clear hHeld2
          try simp only [Act.put, List.setIfInBounds_toArray, List.set_cons_zero, List.set_cons_succ]
          have HRW : Hid (Ow pv w7 w.heap.size 89 vO k (PsO.map (fun x => x.1))) := Lib.hid (by have := HO5.out.row; rw [HLN.out] at this; exact this)
          refine wpAnyH_ready (rs := [8]) (by kernel_rfl) (by simp) (AllReadyH.cons (o := { dst := some 40, op := Op.call { callee := Callee.builtin Builtin.append, args := #[Operand.tmp 36, Operand.tmp 39], argTypes := #[90, 90] }, type := 90, pos := "arena.go:153", after := #[{ on := 4, ground := Ground.data }, { on := 7, ground := Ground.data }, { on := 6, ground := Ground.chain }], guard := none }) rfl (fun K hK => ?_) AllReadyH.nil)
          refine step_append_sl elemP rfl (.tmp 36) (.tmp 39) rfl w.heap.size vO k (PsO.map (fun x => x.1)) rfl HRW.out (some ⟨xq, 0, none⟩) 1 1 [q] rfl HX.out (by omega) (by decide) HB5.out.size (fun v8 w8 ho8 hg8 => ?_)
          obtain ⟨A8, c8, rfl, _⟩ := Ow.sl ho8
          have hm := HO5.out.more (HPQ.out.base HZG.out.2) (fun x hx => ⟨by have := (HZQ.out x hx).1; have := (Pg.at_ HPQ.out).hp; omega, by have := (HZQ.out x hx).2; have := (Pg.at_ HPQ.out).own.1; omega⟩) (by have := HZG.out.1; have := (Pg.at_ HPQ.out).own.1; omega) (by rw [HLN.out]; exact ho8) hg8
          have HM1 := Lib.hid hm.1
          have HM2 := Lib.hid hm.2
          have hlt8 := fun j hj => (Ow.lt HRW.out j hj).1
          have HB8 : Hid (Below w.heap.size w w8) := Lib.hid (Below.grown HB5.out hg8 HB5.out.size hlt8)
          have HOQ : Hid (w.heap.size ≤ oq) := Lib.hid HO5.out.hp
          clear hm ho8 hg8 hlt8
          refine hK.out _ _ ⟨oldc_of (HM1.out.cell 1), HM1.out.frozen 1⟩ (fun hHeld2 => ?_)
          clear hK K hHeld
          have hHeld := hHeld2
          clear hHeld2
          try simp only [Act.put, List.setIfInBounds_toArray, List.set_cons_zero, List.set_cons_succ]
          refine wpAnyH_take (i := 9) (oi := { dst := some 41, op := Op.nilCheck (Operand.tmp 32), type := 0, pos := "arena.go:153", after := #[{ on := 0, ground := Ground.data }, { on := 0, ground := Ground.phase }, { on := 1, ground := Ground.phase }, { on := 2, ground := Ground.phase }, { on := 3, ground := Ground.phase }, { on := 4, ground := Ground.phase }, { on := 5, ground := Ground.phase }, { on := 6, ground := Ground.phase }, { on := 7, ground := Ground.phase }, { on := 8, ground := Ground.phase }], guard := none }) (v := ?_) rfl (by kernel_rfl) (by kernel_rfl) (by kernel_rfl) (fun _ _ _ h => h) (Or.inl ⟨by rfl, ?_⟩) (by assumption) ?_
          rotate_left
          · intro W hSw
            clear hSw
            go_simp
            try with_reducible rfl
          simp only [Act.put, List.setIfInBounds_toArray, List.set_cons_zero, List.set_cons_succ]
          refine wpAnyH_take (i := 10) (oi := { dst := some 42, op := Op.fieldAddr 93 (Operand.tmp 41) 1, type := 0, pos := "arena.go:153", after := #[{ on := 9, ground := Ground.data }, { on := 0, ground := Ground.phase }, { on := 1, ground := Ground.phase }, { on := 2, ground := Ground.phase }, { on := 3, ground := Ground.phase }, { on := 4, ground := Ground.phase }, { on := 5, ground := Ground.phase }, { on := 6, ground := Ground.phase }, { on := 7, ground := Ground.phase }, { on := 8, ground := Ground.phase }], guard := none }) (v := ?_) rfl (by kernel_rfl) (by kernel_rfl) (by kernel_rfl) (fun _ _ _ h => h) (Or.inl ⟨by rfl, ?_⟩) (by assumption) ?_
          rotate_left
          · intro W hSw
            clear hSw
            go_simp
            try with_reducible rfl
          simp only [Act.put, List.setIfInBounds_toArray, List.set_cons_zero, List.set_cons_succ]
          refine wpAnyH_ready (rs := [11]) (by kernel_rfl) (by simp) (AllReadyH.cons (o := { dst := none, op := Op.store 90 (Operand.tmp 42) (Operand.tmp 40), type := 0, pos := "arena.go:153", after := #[{ on := 10, ground := Ground.data }, { on := 8, ground := Ground.data }, { on := 8, ground := Ground.chain }, { on := 0, ground := Ground.phase }, { on := 1, ground := Ground.phase }, { on := 2, ground := Ground.phase }, { on := 3, ground := Ground.phase }, { on := 4, ground := Ground.phase }, { on := 5, ground := Ground.phase }, { on := 6, ground := Ground.phase }, { on := 7, ground := Ground.phase }, { on := 8, ground := Ground.phase }], guard := none }) rfl (fun K hK => ?_) AllReadyH.nil)
          clear hHeld
          have q1 := HM1.out.cell 1
          have qf := HM1.out.frozen 1
          simp only [List.getElem?_toArray, List.getElem?_cons_zero, List.getElem?_cons_succ] at q1
          go_simp
          refine hK.out _ _ ⟨oldc_of HM2.out.c.2.1, HM2.out.blk.frozen 1⟩ (fun hHeld2 => ?_)
          clear hK K q1 qf
          refine wpAnyH_done (by kernel_rfl) (NoPanic.normal ?_) _
          clear hHeld2
          have HB9 := Lib.hid (Below.setCell (p := ⟨oq, 1, none⟩) HB8.out HOQ.out (.slice A8 (k + 1) c8))
          have HMN : Hid ((PsO ++ [(q, qb, P)]).map (fun x => x.2.2) = (Ps.map (fun x => x.2.2)).take (k + 1)) := by
            show _ = _
            rw [HPE.out, List.map_append, HMO.out]; rfl
          go_wp2
          go_roundw
          case rel => exact ⟨k + 1, _, _, by omega, by go_num, HM2.out, HMN.out, HB9.out⟩
          case measure => simp [intOf]; omega
        · have c1 := HO5.out.c.2.1
          clear hHeld
          go_simp
          clear c1
          refine hK.out _ _ (HSO.out _ _ HO5.out) (fun hHeld2 => ?_)
          clear hK K
          try clear hHeld
          have hHeld := hHeld2
          clear hHeld2
          try simp only [Act.put, List.setIfInBounds_toArray, List.set_cons_zero, List.set_cons_succ]
          refine wpAnyH_ready (rs := [7]) (by kernel_rfl) (by simp) (AllReadyH.cons (o := { dst := some 39, op := Op.buildSlice 90 1 #[(0, Operand.tmp 38)], type := 90, pos := "arena.go:153", after := #[{ on := 6, ground := Ground.data }], guard := none }) rfl (fun K hK => ?_) AllReadyH.nil)
          have hbx : Below w6.heap.size w6 (w6.alloc (.cells #[.pointer (some ⟨q, 0, none⟩)] 89)) := (Below.refl _ _).alloc (Nat.le_refl _) _
          have HX : Hid (Sl pv (w6.alloc (.cells #[.pointer (some ⟨q, 0, none⟩)] 89)) (some ⟨w6.heap.size, 0, none⟩) 1 1 [q]) := Blk.sl (enc := pv) (xs := [q]) (Blk.new w6 #[.pointer (some ⟨q, 0, none⟩)] 89)
          replace HO5 := Lib.hid (HO5.out.later hbx)
          replace HB5 := Lib.hid (stepB HB5.out hbx)
          replace HPQ := Lib.hid (HPQ.out.later hbx)
          clear hbx
          go_simp
          refine hK.out _ _ (HSO.out _ _ HO5.out) (fun hHeld2 => ?_)
          clear hK K
          try clear hHeld
          have hHeld := hHeld2
          clear hHeld2
          try simp only [Act.put, List.setIfInBounds_toArray, List.set_cons_zero, List.set_cons_succ]
          generalize w6.alloc (.cells #[.pointer (some ⟨q, 0, none⟩)] 89) = w7 at *
          generalize w6.heap.size = xq at *
          have HRW : Hid (Ow pv w7 w.heap.size 89 vO k (PsO.map (fun x => x.1))) := Lib.hid (by have := HO5.out.row; rw [HLN.out] at this; exact this)
          refine wpAnyH_ready (rs := [8]) (by kernel_rfl) (by simp) (AllReadyH.cons (o := { dst := some 40, op := Op.call { callee := Callee.builtin Builtin.append, args := #[Operand.tmp 36, Operand.tmp 39], argTypes := #[90, 90] }, type := 90, pos := "arena.go:153", after := #[{ on := 4, ground := Ground.data }, { on := 7, ground := Ground.data }, { on := 6, ground := Ground.chain }], guard := none }) rfl (fun K hK => ?_) AllReadyH.nil)
          refine step_append_sl elemP rfl (.tmp 36) (.tmp 39) rfl w.heap.size vO k (PsO.map (fun x => x.1)) rfl HRW.out (some ⟨xq, 0, none⟩) 1 1 [q] rfl HX.out (by omega) (by decide) HB5.out.size (fun v8 w8 ho8 hg8 => ?_)
          obtain ⟨A8, c8, rfl, _⟩ := Ow.sl ho8
          have hm := HO5.out.more (HPQ.out.base HZG.out.2) (fun x hx => ⟨by have := (HZQ.out x hx).1; have := (Pg.at_ HPQ.out).hp; omega, by have := (HZQ.out x hx).2; have := (Pg.at_ HPQ.out).own.1; omega⟩) (by have := HZG.out.1; have := (Pg.at_ HPQ.out).own.1; omega) (by rw [HLN.out]; exact ho8) hg8
          have HM1 := Lib.hid hm.1
          have HM2 := Lib.hid hm.2
          have hlt8 := fun j hj => (Ow.lt HRW.out j hj).1
          have HB8 : Hid (Below w.heap.size w w8) := Lib.hid (Below.grown HB5.out hg8 HB5.out.size hlt8)
          have HOQ : Hid (w.heap.size ≤ oq) := Lib.hid HO5.out.hp
          clear hm ho8 hg8 hlt8
          refine hK.out _ _ ⟨oldc_of (HM1.out.cell 1), HM1.out.frozen 1⟩ (fun hHeld2 => ?_)
          clear hK K hHeld
          have hHeld := hHeld2
          clear hHeld2
          try simp only [Act.put, List.setIfInBounds_toArray, List.set_cons_zero, List.set_cons_succ]
          refine wpAnyH_take (i := 9) (oi := { dst := some 41, op := Op.nilCheck (Operand.tmp 32), type := 0, pos := "arena.go:153", after := #[{ on := 0, ground := Ground.data }, { on := 0, ground := Ground.phase }, { on := 1, ground := Ground.phase }, { on := 2, ground := Ground.phase }, { on := 3, ground := Ground.phase }, { on := 4, ground := Ground.phase }, { on := 5, ground := Ground.phase }, { on := 6, ground := Ground.phase }, { on := 7, ground := Ground.phase }, { on := 8, ground := Ground.phase }], guard := none }) (v := ?_) rfl (by kernel_rfl) (by kernel_rfl) (by kernel_rfl) (fun _ _ _ h => h) (Or.inl ⟨by rfl, ?_⟩) (by assumption) ?_
          rotate_left
          · intro W hSw
            clear hSw
            go_simp
            try with_reducible rfl
          simp only [Act.put, List.setIfInBounds_toArray, List.set_cons_zero, List.set_cons_succ]
          refine wpAnyH_take (i := 10) (oi := { dst := some 42, op := Op.fieldAddr 93 (Operand.tmp 41) 1, type := 0, pos := "arena.go:153", after := #[{ on := 9, ground := Ground.data }, { on := 0, ground := Ground.phase }, { on := 1, ground := Ground.phase }, { on := 2, ground := Ground.phase }, { on := 3, ground := Ground.phase }, { on := 4, ground := Ground.phase }, { on := 5, ground := Ground.phase }, { on := 6, ground := Ground.phase }, { on := 7, ground := Ground.phase }, { on := 8, ground := Ground.phase }], guard := none }) (v := ?_) rfl (by kernel_rfl) (by kernel_rfl) (by kernel_rfl) (fun _ _ _ h => h) (Or.inl ⟨by rfl, ?_⟩) (by assumption) ?_
          rotate_left
          · intro W hSw
            clear hSw
            go_simp
            try with_reducible rfl
          simp only [Act.put, List.setIfInBounds_toArray, List.set_cons_zero, List.set_cons_succ]
          refine wpAnyH_ready (rs := [11]) (by kernel_rfl) (by simp) (AllReadyH.cons (o := { dst := none, op := Op.store 90 (Operand.tmp 42) (Operand.tmp 40), type := 0, pos := "arena.go:153", after := #[{ on := 10, ground := Ground.data }, { on := 8, ground := Ground.data }, { on := 8, ground := Ground.chain }, { on := 0, ground := Ground.phase }, { on := 1, ground := Ground.phase }, { on := 2, ground := Ground.phase }, { on := 3, ground := Ground.phase }, { on := 4, ground := Ground.phase }, { on := 5, ground := Ground.phase }, { on := 6, ground := Ground.phase }, { on := 7, ground := Ground.phase }, { on := 8, ground := Ground.phase }], guard := none }) rfl (fun K hK => ?_) AllReadyH.nil)
          clear hHeld
          have q1 := HM1.out.cell 1
          have qf := HM1.out.frozen 1
          simp only [List.getElem?_toArray, List.getElem?_cons_zero, List.getElem?_cons_succ] at q1
          go_simp
          refine hK.out _ _ ⟨oldc_of HM2.out.c.2.1, HM2.out.blk.frozen 1⟩ (fun hHeld2 => ?_)
          clear hK K q1 qf
          refine wpAnyH_done (by kernel_rfl) (NoPanic.normal ?_) _
          clear hHeld2
          have HB9 := Lib.hid (Below.setCell (p := ⟨oq, 1, none⟩) HB8.out HOQ.out (.slice A8 (k + 1) c8))
          have HMN : Hid ((PsO ++ [(q, qb, P)]).map (fun x => x.2.2) = (Ps.map (fun x => x.2.2)).take (k + 1)) := by
            show _ = _
            rw [HPE.out, List.map_append, HMO.out]; rfl
          go_wp2
          go_roundw
          case rel => exact ⟨k + 1, _, _, by omega, by go_num, HM2.out, HMN.out, HB9.out⟩
          case measure => simp [intOf]; omega
      · have c1 := HO5.out.c.2.1
        clear hHeld
        go_simp
        clear c1
        refine hK.out _ _ (HSO.out _ _ HO5.out) (fun hHeld2 => ?_)
        clear hK K
        try clear hHeld
        have hHeld := hHeld2
        clear hHeld2
        try simp only [Act.put, List.setIfInBounds_toArray, List.set_cons_zero, List.set_cons_succ]
        refine wpAnyH_ready (rs := [6]) (by kernel_rfl) (by simp) (AllReadyH.cons (o := { dst := some 38, op := Op.call { callee := Callee.value (Operand.func 60), args := #[Operand.tmp 37], argTypes := #[89] }, type := 89, pos := "arena.go:153", after := #[{ on := 5, ground := Ground.data }], guard := none }) rfl (fun K hK => ?_) AllReadyH.nil)
        refine step_callw (by rfl) 60 #[.pointer (some ⟨pp, 0, none⟩)] (by go_simp) ?_
        refine (copy_any B pp pb s P.1 P.2.1 P.2.2.1 P.2.2.2 w5 HP5.out).mono ?_
        rintro z w6 ⟨q, qb, rfl, hpq, hb⟩
        have HPQ : Hid (PgS w6 w5.heap.size q qb s P) := Lib.hid hpq
        have HZQ : Hid (∀ x ∈ PsO, x.1 < w5.heap.size ∧ x.2.1 < w5.heap.size) := fun x hx => ⟨(Pg.at_ (HO5.out.pgs x hx)).plt, (Pg.at_ (HO5.out.pgs x hx)).blt⟩
        have HZG : Hid (gg < w5.heap.size ∧ w.heap.size ≤ w5.heap.size) := ⟨HO5.out.gens.2.lt, HB5.out.size⟩
        replace HO5 := Lib.hid (HO5.out.later hb)
        replace HB5 := Lib.hid (stepB HB5.out hb)
        clear hpq hb HP5
        refine ⟨_, rfl, hK.out _ _ (HSO.out _ _ HO5.out) (fun hHeld2 => ?_)⟩
        clear hK K hHeld
        have hHeld := hHeld2
        clear hHeld2
        try simp only [Act.put, List.setIfInBounds_toArray, List.set_cons_zero, List.set_cons_succ]
        obtain ⟨z5, hz5⟩ : ∃ z5, w5.heap.size = z5 := ⟨_, rfl⟩
        rw [hz5] at HPQ HZQ HZG
        clear hz5
        obtain ⟨w5, hw5⟩ : ∃ x, w6 = x := ⟨_, rfl⟩
        subst hw5
        refine wpAnyH_ready (rs := [7]) (by kernel_rfl) (by simp) (AllReadyH.cons (o := { dst := some 39, op := Op.buildSlice 90 1 #[(0, Operand.tmp 38)], type := 90, pos := "arena.go:153", after := #[{ on := 6, ground := Ground.data }], guard := none }) rfl (fun K hK => ?_) AllReadyH.nil)
        have hbx : Below w6.heap.size w6 (w6.alloc (.cells #[.pointer (some ⟨q, 0, none⟩)] 89)) := (Below.refl _ _).alloc (Nat.le_refl _) _
        have HX : Hid (Sl pv (w6.alloc (.cells #[.pointer (some ⟨q, 0, none⟩)] 89)) (some ⟨w6.heap.size, 0, none⟩) 1 1 [q]) := Blk.sl (enc := pv) (xs := [q]) (Blk.new w6 #[.pointer (some ⟨q, 0, none⟩)] 89)
        replace HO5 := Lib.hid (HO5.out.later hbx)
        replace HB5 := Lib.hid (stepB HB5.out hbx)
        replace HPQ := Lib.hid (HPQ.out.later hbx)
        clear hbx
        go_simp
        refine hK.out _ _ (HSO.out _ _ HO5.out) (fun hHeld2 => ?_)
        clear hK K
        try clear hHeld
        have hHeld := hHeld2
        clear hHeld2
        try simp only [Act.put, List.setIfInBounds_toArray, List.set_cons_zero, List.set_cons_succ]
        generalize w6.alloc (.cells #[.pointer (some ⟨q, 0, none⟩)] 89) = w7 at *
        generalize w6.heap.size = xq at *
        have HRW : Hid (Ow pv w7 w.heap.size 89 vO k (PsO.map (fun x => x.1))) := Lib.hid (by have := HO5.out.row; rw [HLN.out] at this; exact this)
        refine wpAnyH_ready (rs := [8]) (by kernel_rfl) (by simp) (AllReadyH.cons (o := { dst := some 40, op := Op.call { callee := Callee.builtin Builtin.append, args := #[Operand.tmp 36, Operand.tmp 39], argTypes := #[90, 90] }, type := 90, pos := "arena.go:153", after := #[{ on := 4, ground := Ground.data }, { on := 7, ground := Ground.data }, { on := 6, ground := Ground.chain }], guard := none }) rfl (fun K hK => ?_) AllReadyH.nil)
        refine step_append_sl elemP rfl (.tmp 36) (.tmp 39) rfl w.heap.size vO k (PsO.map (fun x => x.1)) rfl HRW.out (some ⟨xq, 0, none⟩) 1 1 [q] rfl HX.out (by omega) (by decide) HB5.out.size (fun v8 w8 ho8 hg8 => ?_)
        obtain ⟨A8, c8, rfl, _⟩ := Ow.sl ho8
        have hm := HO5.out.more (HPQ.out.base HZG.out.2) (fun x hx => ⟨by have := (HZQ.out x hx).1; have := (Pg.at_ HPQ.out).hp; omega, by have := (HZQ.out x hx).2; have := (Pg.at_ HPQ.out).own.1; omega⟩) (by have := HZG.out.1; have := (Pg.at_ HPQ.out).own.1; omega) (by rw [HLN.out]; exact ho8) hg8
        have HM1 := Lib.hid hm.1
        have HM2 := Lib.hid hm.2
        have hlt8 := fun j hj => (Ow.lt HRW.out j hj).1
        have HB8 : Hid (Below w.heap.size w w8) := Lib.hid (Below.grown HB5.out hg8 HB5.out.size hlt8)
        have HOQ : Hid (w.heap.size ≤ oq) := Lib.hid HO5.out.hp
        clear hm ho8 hg8 hlt8
        refine hK.out _ _ ⟨oldc_of (HM1.out.cell 1), HM1.out.frozen 1⟩ (fun hHeld2 => ?_)
        clear hK K hHeld
        have hHeld := hHeld2
        clear hHeld2
        try simp only [Act.put, List.setIfInBounds_toArray, List.set_cons_zero, List.set_cons_succ]
        refine wpAnyH_take (i := 9) (oi := { dst := some 41, op := Op.nilCheck (Operand.tmp 32), type := 0, pos := "arena.go:153", after := #[{ on := 0, ground := Ground.data }, { on := 0, ground := Ground.phase }, { on := 1, ground := Ground.phase }, { on := 2, ground := Ground.phase }, { on := 3, ground := Ground.phase }, { on := 4, ground := Ground.phase }, { on := 5, ground := Ground.phase }, { on := 6, ground := Ground.phase }, { on := 7, ground := Ground.phase }, { on := 8, ground := Ground.phase }], guard := none }) (v := ?_) rfl (by kernel_rfl) (by kernel_rfl) (by kernel_rfl) (fun _ _ _ h => h) (Or.inl ⟨by rfl, ?_⟩) (by assumption) ?_
        rotate_left
        · intro W hSw
          clear hSw
          go_simp
          try with_reducible rfl
        simp only [Act.put, List.setIfInBounds_toArray, List.set_cons_zero, List.set_cons_succ]
        refine wpAnyH_take (i := 10) (oi := { dst := some 42, op := Op.fieldAddr 93 (Operand.tmp 41) 1, type := 0, pos := "arena.go:153", after := #[{ on := 9, ground := Ground.data }, { on := 0, ground := Ground.phase }, { on := 1, ground := Ground.phase }, { on := 2, ground := Ground.phase }, { on := 3, ground := Ground.phase }, { on := 4, ground := Ground.phase }, { on := 5, ground := Ground.phase }, { on := 6, ground := Ground.phase }, { on := 7, ground := Ground.phase }, { on := 8, ground := Ground.phase }], guard := none }) (v := ?_) rfl (by kernel_rfl) (by kernel_rfl) (by kernel_rfl) (fun _ _ _ h => h) (Or.inl ⟨by rfl, ?_⟩) (by assumption) ?_
        rotate_left
        · intro W hSw
          clear hSw
          go_simp
          try with_reducible rfl
        simp only [Act.put, List.setIfInBounds_toArray, List.set_cons_zero, List.set_cons_succ]
        refine wpAnyH_ready (rs := [11]) (by kernel_rfl) (by simp) (AllReadyH.cons (o := { dst := none, op := Op.store 90 (Operand.tmp 42) (Operand.tmp 40), type := 0, pos := "arena.go:153", after := #[{ on := 10, ground := Ground.data }, { on := 8, ground := Ground.data }, { on := 8, ground := Ground.chain }, { on := 0, ground := Ground.phase }, { on := 1, ground := Ground.phase }, { on := 2, ground := Ground.phase }, { on := 3, ground := Ground.phase }, { on := 4, ground := Ground.phase }, { on := 5, ground := Ground.phase }, { on := 6, ground := Ground.phase }, { on := 7, ground := Ground.phase }, { on := 8, ground := Ground.phase }], guard := none }) rfl (fun K hK => ?_) AllReadyH.nil)
        clear hHeld
        have q1 := HM1.out.cell 1
        have qf := HM1.out.frozen 1
        simp only [List.getElem?_toArray, List.getElem?_cons_zero, List.getElem?_cons_succ] at q1
        go_simp
        refine hK.out _ _ ⟨oldc_of HM2.out.c.2.1, HM2.out.blk.frozen 1⟩ (fun hHeld2 => ?_)
        clear hK K q1 qf
        refine wpAnyH_done (by kernel_rfl) (NoPanic.normal ?_) _
        clear hHeld2
        have HB9 := Lib.hid (Below.setCell (p := ⟨oq, 1, none⟩) HB8.out HOQ.out (.slice A8 (k + 1) c8))
        have HMN : Hid ((PsO ++ [(q, qb, P)]).map (fun x => x.2.2) = (Ps.map (fun x => x.2.2)).take (k + 1)) := by
          show _ = _
          rw [HPE.out, List.map_append, HMO.out]; rfl
        go_wp2
        go_roundw
        case rel => exact ⟨k + 1, _, _, by omega, by go_num, HM2.out, HMN.out, HB9.out⟩
        case measure => simp [intOf]; omega
    · obtain rfl : k = Ps.length := by omega
      have d1 : decide ((Ps.length : Int) < (Ps.length : Int)) = false := decide_eq_false (by omega)
      have hts : PsO.map (fun x => x.2.2) = L := by
        rw [HMO.out, ← HM.out, List.take_of_length_le (by rw [List.length_map]; exact Nat.le_refl _)]
      have HTS := Lib.hid hts
      clear hts
      go_wp2
      go_ret
      exact ⟨oq, _, rfl, ⟨gg, vO, PsO, HOO.out, HTS.out, rfl, HLO.out.1, HLO.out.2⟩, HB4.out⟩
end Go.Proofs.Ytbncpfkoeahhpaa
