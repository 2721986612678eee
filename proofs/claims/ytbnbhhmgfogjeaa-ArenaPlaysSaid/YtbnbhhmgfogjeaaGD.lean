/- What the calls make of an arena. -/
import Derived.Test.YtbnbhhmgfogjeaaGC
import Derived.Test.YtbnbhhmgfogjeaaJZ7
namespace Go.Proofs.Ytbnbhhmgfogjeaa
open Go.ChangeShapes Go.WideShapes Go.ChangeAt Go.RowKit Go.Maps
set_option linter.unusedVariables false
set_option linter.unusedSimpArgs false

/-- the first page that may have room; the pages; how often each slot was given -/
abbrev AS := Nat × List PS × List gn.Ct
def fullP (s : Nat) (P : PS) : Bool := decide (P.2.1.length = 4096 / s)
def newP : PS := (0, [], List.replicate 4096 0, [])
def lowL (s low : Nat) (L : List PS) : Nat := low + ((L.drop low).takeWhile (fullP s)).length
theorem lowL_step {s low : Nat} {L : List PS} (h : low < L.length) (hf : fullP s L[low] = true) : lowL s (low + 1) L = lowL s low L := by
  unfold lowL
  rw [List.drop_eq_getElem_cons h, List.takeWhile_cons, if_pos hf, List.length_cons]
  omega
theorem lowL_stop {s low : Nat} {L : List PS} (h : low < L.length) (hf : fullP s L[low] = false) : lowL s low L = low := by
  unfold lowL
  rw [List.drop_eq_getElem_cons h, List.takeWhile_cons, if_neg (by rw [hf]; decide)]
  rfl
theorem lowL_end {s low : Nat} {L : List PS} (h : L.length ≤ low) : lowL s low L = low := by
  unfold lowL
  rw [List.drop_eq_nil_of_le h]
  rfl
theorem lowL_ge {s low : Nat} {L : List PS} : low ≤ lowL s low L := by unfold lowL; omega
theorem takeWhile_le {α : Type} (p : α → Bool) : ∀ l : List α, (l.takeWhile p).length ≤ l.length
  | [] => Nat.le_refl _
  | x :: l => by
    rw [List.takeWhile_cons]
    split
    · have := takeWhile_le p l; simp; omega
    · simp
theorem lowL_le {s low : Nat} {L : List PS} (h : low ≤ L.length) : lowL s low L ≤ L.length := by
  unfold lowL
  have h1 := takeWhile_le (fullP s) (L.drop low)
  rw [List.length_drop] at h1
  omega
/-- of the first that may have room on: those ahead are full, it has room, or there is none -/
theorem lowL_is (s : Nat) (L : List PS) : ∀ (n low : Nat), n = L.length - low → low ≤ L.length → (∀ i, low ≤ i → i < lowL s low L → ∃ P, L[i]? = some P ∧ fullP s P = true) ∧ (∀ P, L[lowL s low L]? = some P → fullP s P = false)
  | 0, low, hn, hl => by
    have e : lowL s low L = low := lowL_end (by omega)
    rw [e]
    refine ⟨fun i h1 h2 => by omega, fun P hP => ?_⟩
    have := (List.getElem?_eq_some_iff.1 hP).1
    omega
  | n + 1, low, hn, hl => by
    have hlt : low < L.length := by omega
    by_cases hf : fullP s L[low] = true
    · rw [← lowL_step hlt hf]
      obtain ⟨h1, h2⟩ := lowL_is s L n (low + 1) (by omega) (by omega)
      refine ⟨fun i a b => ?_, h2⟩
      by_cases e : i = low
      · subst e; exact ⟨_, List.getElem?_eq_getElem hlt, hf⟩
      · exact h1 i (by omega) b
    · have hf : fullP s L[low] = false := by simpa using hf
      rw [lowL_stop hlt hf]
      refine ⟨fun i h1 h2 => by omega, fun P hP => ?_⟩
      rw [List.getElem?_eq_getElem hlt] at hP
      cases hP
      exact hf
/-- a place, a handle -/
def zOf (i : Nat) (o : Nat) : Int := (i : Int) * 65536 + (o : Int)
def putA (s : Nat) (l : Nat) (L : List PS) (G : List gn.Ct) : AS × Int × Int :=
  ((l, L.set l (alS s (L.getD l newP)), gn.putC G (zOf l (nextO s (L.getD l newP))) ((gn.ofC G (zOf l (nextO s (L.getD l newP))) + 1) % 4294967296)),
    zOf l (nextO s (L.getD l newP)) * 4294967296 + (gn.ofC G (zOf l (nextO s (L.getD l newP))) + 1) % 4294967296, 0)
def alA (s : Nat) (st : AS) : AS × Int × Int :=
  if lowL s st.1 st.2.1 < st.2.1.length then putA s (lowL s st.1 st.2.1) st.2.1 st.2.2
  else if st.2.1.length = 4096 then ((lowL s st.1 st.2.1, st.2.1, st.2.2), 0, 41)
  else putA s (lowL s st.1 st.2.1) (st.2.1 ++ [newP]) st.2.2
/-- the page, the offset, the place, the generation of a handle -/
def hP (h : Int) : Nat := (h / 281474976710656).toNat
def hO (h : Int) : Int := h / 4294967296 % 65536
def hZ (h : Int) : Int := h / 4294967296
def hG (h : Int) : Int := h % 4294967296
def isA (st : AS) (h : Int) : Bool := decide (hP h < st.2.1.length) && (isC (st.2.1.getD (hP h) newP).2.1 (hO h) && decide (gn.ofC st.2.2 (hZ h) = hG h))
def frA (h : Int) (st : AS) : AS := if isA st h then (min st.1 (hP h), st.2.1.set (hP h) (frS (hO h) (st.2.1.getD (hP h) newP)), st.2.2) else st
def frAE (h : Int) (st : AS) : Int := if isA st h then 0 else 5
def wrA (s : Nat) (h : Int) (S : ByteArray) (st : AS) : AS := if isA st h then (st.1, st.2.1.set (hP h) (wrS s (hO h) S (st.2.1.getD (hP h) newP)), st.2.2) else st
def wrAE (s : Nat) (h : Int) (S : ByteArray) (st : AS) : Int := if isA st h then (if S.size ≤ s then 0 else 40) else 5
def rdA (s : Nat) (h : Int) (st : AS) : ByteArray := if isA st h then rdT s (hO h) (st.2.1.getD (hP h) newP) else ByteArray.empty
def rdAE (h : Int) (st : AS) : Int := if isA st h then 0 else 5
def usA (st : AS) : Nat := (st.2.1.map (fun P => P.2.1.length)).sum
/-- an arena in memory, and the blocks that are its -/
def AR (W : World) (B a s : Nat) (st : AS) (S : Nat → Prop) : Prop :=
  ∃ g v Ps, Ar W B a g v st.1 s Ps st.2.2 ∧ Ps.map (fun x => x.2.2) = st.2.1 ∧ S = ArSet a g v Ps ∧ st.1 ≤ st.2.1.length ∧ st.2.1.length ≤ 4096
section
variable {W W' w w' : World} {B a s : Nat} {st st' : AS} {S S' : Nat → Prop}
theorem AR.later (h : AR W B a s st S) (hb : Below W.heap.size W W') : AR W' B a s st S := by
  obtain ⟨g, v, Ps, h1, h2⟩ := h
  exact ⟨g, v, Ps, h1.later hb, h2⟩
theorem AR.base {B' : Nat} (h : AR W B a s st S) (hb : B' ≤ B) : AR W B' a s st S := by
  obtain ⟨g, v, Ps, h1, h2⟩ := h
  exact ⟨g, v, Ps, h1.base hb, h2⟩
theorem AR.lt (h : AR W B a s st S) : ∀ k, S k → B ≤ k ∧ k < W.heap.size := by
  obtain ⟨g, v, Ps, h1, _, rfl, _⟩ := h
  exact h1.lt
theorem AR.fr {R : Nat → Prop} (h : AR W B a s st S) (hf : FrS W W' R) (hd : ∀ k, S k → ¬ R k) : AR W' B a s st S := by
  obtain ⟨g, v, Ps, h1, h2, rfl, h3⟩ := h
  exact ⟨g, v, Ps, h1.fr hf hd, h2, rfl, h3⟩
/-- what each of its blocks is -/
theorem AR.tags (h : AR W B a s st S) : ∀ k, S k → (∃ c t, W.heap[k]? = some (.cells c t (0, 0)) ∧ (t = 71 ∨ t = 67 ∨ t = 102)) ∨ ∃ es z, W.heap[k]? = some (.map es z) := by
  obtain ⟨g, v, Ps, h1, _, rfl, _⟩ := h
  intro k hk
  rcases hk with rfl | rfl | e | ⟨x, hx, rfl | rfl⟩
  · obtain ⟨c, hc⟩ := h1.ta; exact .inl ⟨c, 71, hc, .inl rfl⟩
  · exact .inr h1.tg
  · obtain ⟨c, hc⟩ := h1.tv e; exact .inl ⟨c, 67, hc, .inr (.inl rfl)⟩
  · obtain ⟨c, hc⟩ := pgs_tp (h1.pgs x hx); exact .inl ⟨c, 102, hc, .inr (.inr rfl)⟩
  · exact .inr (pgs_tb (h1.pgs x hx))
/-- a block of another type is none of these -/
theorem AR.not (h : AR W B a s st S) {q t : Nat} {c : Array Value} (hq : W.heap[q]? = some (.cells c t (0, 0))) (ht : t ≠ 71 ∧ t ≠ 67 ∧ t ≠ 102) : ¬ S q := fun e => by
  rcases h.tags q e with ⟨c2, t2, h2, h3⟩ | ⟨es, z, h2⟩
  · rw [hq] at h2; cases h2
    rcases h3 with h3 | h3 | h3
    · exact ht.1 h3
    · exact ht.2.1 h3
    · exact ht.2.2 h3
  · rw [hq] at h2; cases h2
theorem AR.ow {α : Type} {enc : α → Value} {B' e n : Nat} {v : Value} {xs : List α} (h : AR W B a s st S) (hf : FrS W W' S) (o : Ow enc W B' e v n xs) (ht : e ≠ 71 ∧ e ≠ 67 ∧ e ≠ 102) : Ow enc W' B' e v n xs :=
  ow_keep o (fun k ek => by
    obtain ⟨c, hc⟩ := Ow.tag o k ek
    exact hf.block k (Ow.lt o k ek).2 (h.not hc ht))
theorem AR.blk {q t : Nat} {c : Array Value} (h : AR W B a s st S) (hf : FrS W W' S) (k : Blk W q c t) (ht : t ≠ 71 ∧ t ≠ 67 ∧ t ≠ 102) : Blk W' q c t := hf.blk k (h.not k ht)
theorem AR.frBelow {w0 : World} {B0 : Nat} (h : AR W B a s st S) (hf : FrS W W' S) (hb : Below B0 w0 W) (h0 : B0 ≤ B) (h1 : B0 ≤ W.heap.size) : Below B0 w0 W' := hf.below hb h1 (fun i hi => Nat.le_trans h0 (h.lt i hi).1)
end
/-- behind a call that turns it -/
def AEnd (B a s : Nat) (st' : AS) (S : Nat → Prop) (val : Value) (w : World) (e : Ending) (w' : World) : Prop :=
  e = .returned val ∧ ∃ S', AR w' B a s st' S' ∧ (∀ k, S' k → S k ∨ w.heap.size ≤ k) ∧ FrS w w' S
end Go.Proofs.Ytbnbhhmgfogjeaa
