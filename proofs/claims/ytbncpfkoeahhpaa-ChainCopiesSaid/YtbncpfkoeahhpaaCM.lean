/- What handles name, step by step. -/
import Derived.Test.YtbncpfkoeahhpaaCL
namespace Go.Proofs.Ytbncpfkoeahhpaa
open Go.ChangeShapes Go.WideShapes Go.ChangeAt Go.RowKit Go.Maps
set_option linter.unusedVariables false
set_option linter.unusedSimpArgs false

theorem rd_wr {s : Nat} {st : AS} (hu : Pu s st) {x y : Int} {Tx : ByteArray} (hx : hR x) (hy : hR y) (h : isA st x = true) : rdA s x (wrA s y Tx st) = if x = y ∧ Tx.size ≤ s then padT s Tx else rdA s x st := rd_write hu hx hy h
theorem wr_G {s : Nat} {st : AS} {y : Int} {Tx : ByteArray} : (wrA s y Tx st).2.2 = st.2.2 := by unfold wrA; split <;> rfl
theorem wr_us {s : Nat} {st : AS} {y : Int} {Tx : ByteArray} : usA (wrA s y Tx st) = usA st := by
  unfold wrA usA
  split
  · rename_i hi
    have hp := (is_parts hi).1
    have e : ∀ (L : List PS) (i : Nat) (P : PS), i < L.length → P.2.1.length = (L.getD i newP).2.1.length → ((L.set i P).map (fun P => P.2.1.length)).sum = (L.map (fun P => P.2.1.length)).sum := by
      intro L
      induction L with
      | nil => intro i P h; simp at h
      | cons a L ih =>
        intro i P h he
        cases i with
        | zero => simp at he ⊢; exact he
        | succ i => rw [List.set_cons_succ, List.map_cons, List.map_cons, List.sum_cons, List.sum_cons, ih i P (by simpa using h) he]
    exact e _ _ _ hp (by unfold wrS; split <;> rfl)
  · rfl
/-- one version becomes another one -/
def setN (nd : Int → Nd) (x : Int) (n : Nd) : Int → Nd := fun y => if y = x then n else nd y
theorem CI.write {m : Nat} {st : AS} {nd : Int → Nd} {U : List Int} {K : Nat} (h : CI m st nd U K) (hu : Pu (27 + m) st) {x : Int} (hx : hR x) (n : Nd) (hn : VN m n) : CI m (wrA (27 + m) x (encT n) st) (setN nd x n) U K := by
  have hsz : (encT n).size ≤ 27 + m := by rw [encT_size]; have := hn.2.2.1; omega
  refine ⟨⟨by rw [wr_G]; exact h.ti.glen, fun z => by rw [wr_G]; exact h.ti.gmax z, fun y hy e => h.ti.pos y hy (by rw [is_write] at e; exact e), fun y hy => by rw [wr_G]; exact h.ti.told y hy, h.ti.unq⟩, fun y hy e => h.cov y hy (by rw [is_write] at e; exact e), fun y hy e => ?_⟩
  rw [is_write] at e
  unfold setN
  rw [rd_wr hu hy hx e]
  by_cases he : y = x
  · rw [if_pos he, if_pos ⟨he, hsz⟩]
    exact ⟨hn, rfl⟩
  · rw [if_neg he, if_neg (fun q => he q.1)]
    exact h.val y hy e
theorem CI.more {m : Nat} {st : AS} {nd : Int → Nd} {U : List Int} {K K' : Nat} (h : CI m st nd U K) (hk : K ≤ K') : CI m st nd U K' :=
  ⟨⟨Nat.le_trans h.ti.glen hk, fun z => ⟨(h.ti.gmax z).1, by have := (h.ti.gmax z).2; omega⟩, h.ti.pos, h.ti.told, h.ti.unq⟩, h.cov, h.val⟩
theorem CI.free {m : Nat} {st : AS} {nd : Int → Nd} {U : List Int} {K : Nat} (h : CI m st nd U K) (hu : Pu (27 + m) st) {x : Int} (hx : hR x) : CI m (frA x st) nd U K := by
  have hi : ∀ y, hR y → isA (frA x st) y = true → isA st y = true := fun y hy q => by
    rw [is_free hy.1 hy.2 hx.1 hx.2, Bool.and_eq_true] at q
    exact q.1
  refine ⟨⟨by rw [frA_G]; exact h.ti.glen, fun z => by rw [frA_G]; exact h.ti.gmax z, fun y hy e => h.ti.pos y hy (hi y hy e), fun y hy => by rw [frA_G]; exact h.ti.told y hy, h.ti.unq⟩, fun y hy e => h.cov y hy (hi y hy e), fun y hy e => ?_⟩
  rw [rd_free hu hy hx (hi y hy e) e]
  exact h.val y hy (hi y hy e)
/-- who is named behind a Free -/
theorem is_freed {st : AS} {x y : Int} (hx : hR x) (hy : hR y) : isA (frA y st) x = (isA st x && decide (x ≠ y)) := by
  rw [is_free hx.1 hx.2 hy.1 hy.2]
  cases e : isA st x with
  | false => rfl
  | true =>
    simp only [Bool.true_and]
    by_cases h : x = y
    · subst h
      rw [e]; simp
    · rw [decide_eq_true h]
      cases e2 : isA st y with
      | false => rfl
      | true =>
        have : hZ x ≠ hZ y := fun q => h (one_of e e2 q)
        rw [decide_eq_false this]; rfl
/-- who is named behind an Alloc: one more -/
theorem put_all {s l : Nat} {st : AS} {U : List Int} {K : Nat} {L : List PS} (h : TI st U K) (hK : K ≤ 100000) (hu : Pu s st) (hl : l < L.length) (hl2 : L.length ≤ 4096) (hL : L = st.2.1 ∨ L = st.2.1 ++ [newP] ∧ l = st.2.1.length) (kP : PgOk s (L.getD l newP)) (hn : fullP s (L.getD l newP) = false) (x : Int) (hx : hR x) :
    isA (putA s l L st.2.2).1 x = (isA st x || decide (x = (putA s l L st.2.2).2.1)) := by
  have ho := kP.next hn
  have hp := put_is hu.2.1 hl hl2 hL kP hn hx.1 hx.2
  obtain ⟨z, hz⟩ : ∃ z, zOf l (nextO s (L.getD l newP)) = z := ⟨_, rfl⟩
  have hm := h.gmax z
  have he : (gn.ofC st.2.2 z + 1) % 4294967296 = gn.ofC st.2.2 z + 1 := by omega
  have hx0 : (putA s l L st.2.2).2.1 = z * 4294967296 + (gn.ofC st.2.2 z + 1) := by unfold putA; simp only; rw [hz, he]
  rw [hp, hx0]
  rw [hz, he]
  obtain ⟨q1, q2, q3, q4, q5, q6, q7, q8, q9⟩ := h_parts hx.1 hx.2
  have hzx := h_z hx.1 hx.2
  have hsp : x = hZ x * 4294967296 + hG x := by unfold hZ hG; omega
  by_cases e : hZ x = z
  · rw [if_pos e]
    have hno : isA st x = false := by
      cases q : isA st x with
      | false => rfl
      | true =>
        obtain ⟨r1, r2, _⟩ := is_parts q
        have hz2 : hZ x = zOf l (nextO s (L.getD l newP)) := by rw [hz]; exact e
        rw [hzx] at hz2
        obtain ⟨e1, e2⟩ := (z_inj (l := l) (k := nextO s (L.getD l newP)) q2 q3 (by omega)).1 hz2
        rcases hL with rfl | ⟨rfl, hl3⟩
        · rw [e1, e2, ho.2.1] at r2; cases r2
        · omega
    rw [hno, Bool.false_or]
    by_cases e3 : gn.ofC st.2.2 z + 1 = hG x
    · rw [decide_eq_true e3, decide_eq_true (by rw [e3, ← e]; exact hsp)]
    · rw [decide_eq_false e3, decide_eq_false (fun q => e3 (by omega))]
  · rw [if_neg e, decide_eq_false (fun q => e (by
      have : (z * 4294967296 + (gn.ofC st.2.2 z + 1)) / 4294967296 = z := by omega
      unfold hZ; rw [q]; exact this)), Bool.or_false]
/-- a Make: the new handle, and what is behind it -/
structure MkOk (m : Nat) (st : AS) (nd : Int → Nd) (U : List Int) (K : Nat) (n : Nd) (h : Int) (st1 st2 : AS) : Prop where
  rg : hR h
  new : h ∉ U ∧ isA st h = false
  wr : wrAE (27 + m) h (encT n) st1 = 0
  ci : CI m st2 (setN nd h n) (U ++ [h]) (K + 1)
  is : ∀ x, hR x → isA st2 x = (isA st x || decide (x = h))
  ne : h ≠ 0
theorem CI.make {m : Nat} {st : AS} {nd : Int → Nd} {U : List Int} {K : Nat} (hi : CI m st nd U K) (hK : K ≤ 100000) (hu : Pu (27 + m) st) (hm : m ≤ 256) (n : Nd) (hn : VN m n) (he : (alA (27 + m) st).2.2 = 0) (hu1 : Pu (27 + m) (alA (27 + m) st).1) :
    MkOk m st nd U K n (alA (27 + m) st).2.1 (alA (27 + m) st).1 (wrA (27 + m) (alA (27 + m) st).2.1 (encT n) (alA (27 + m) st).1) := by
  have hsz : (encT n).size ≤ 27 + m := by rw [encT_size]; have := hn.2.2.1; omega
  rcases alA_cases (s := 27 + m) (by omega) (by omega) hu.1 hu.2.2.1 hu.2.2.2 with e | ⟨l, L, e, el, h5, h6, h7, h8, h9⟩
  · rw [e] at he; cases he
  · rw [e] at hu1 ⊢
    have hs := put_step hi.ti hK hu h5 h6 h7 h8 h9
    have ha := put_all hi.ti hK hu h5 h6 h7 h8 h9
    have hrp := fun x hx h h' => rd_put (x := x) hu h5 h6 h7 h8 h9 hx h h'
    generalize putA (27 + m) l L st.2.2 = A at *
    obtain ⟨st1, x0, er⟩ := A
    simp only at hu1 hs ha hrp ⊢
    obtain ⟨n1, n2, n3⟩ := hs.new rfl
    have hti : TI st1 (U ++ [x0]) (K + 1) := by have := hs.ti; rwa [if_pos rfl] at this
    have hno : isA st x0 = false := by
      cases q : isA st x0 with
      | false => rfl
      | true => exact absurd (hi.cov x0 n1 q) n2
    refine ⟨n1, ⟨n2, hno⟩, by unfold wrAE; rw [if_pos n3, if_pos hsz], ?_, fun x hx => by rw [is_write]; exact ha x hx, fun e0 => ?_⟩
    · refine ⟨⟨by rw [wr_G]; exact hti.glen, fun z => by rw [wr_G]; exact hti.gmax z, fun y hy q => hti.pos y hy (by rw [is_write] at q; exact q), fun y hy => by rw [wr_G]; exact hti.told y hy, hti.unq⟩, fun y hy q => ?_, fun y hy q => ?_⟩
      · rw [is_write, ha y hy, Bool.or_eq_true, decide_eq_true_eq] at q
        rcases q with q | q
        · exact List.mem_append_left _ (hi.cov y hy q)
        · rw [q]; simp
      · rw [is_write] at q
        unfold setN
        rw [rd_wr hu1 hy n1 q]
        by_cases e2 : y = x0
        · rw [if_pos e2, if_pos ⟨e2, hsz⟩]
          exact ⟨hn, rfl⟩
        · rw [if_neg e2, if_neg (fun q => e2 q.1)]
          have q2 : isA st y = true := by
            have q3 := q
            rw [ha y hy, Bool.or_eq_true, decide_eq_true_eq] at q3
            rcases q3 with q3 | q3
            · exact q3
            · exact absurd q3 e2
          rw [hrp y hy q2 q]
          exact hi.val y hy q2
    · rw [e0] at n3
      rw [hti.zero] at n3
      cases n3
/-- how many are used: how many of those that were told are named -/
theorem CI.us {m : Nat} {st : AS} {nd : Int → Nd} {U : List Int} {K : Nat} (hi : CI m st nd U K) (hK : K ≤ 100000) (hu : Pu (27 + m) st) : usA st = U.countP (fun x => isA st x) :=
  (count_all (s := 27 + m) hu (fun z => ⟨(hi.ti.gmax z).1, by have := (hi.ti.gmax z).2; omega⟩) hi.ti.unq (fun x hx => (hi.ti.told x hx).1) hi.cov).symm
end Go.Proofs.Ytbncpfkoeahhpaa
