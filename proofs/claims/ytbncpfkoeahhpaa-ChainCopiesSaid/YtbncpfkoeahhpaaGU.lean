/- What is read, step by step. -/
import Derived.Test.YtbncpfkoeahhpaaGO
namespace Go.Proofs.Ytbncpfkoeahhpaa
open Go.ChangeShapes Go.WideShapes Go.ChangeAt Go.RowKit Go.Maps
set_option linter.unusedVariables false
set_option linter.unusedSimpArgs false

theorem x_of {x y : Int} (h : hZ x = hZ y) (h2 : hG x = hG y) : x = y := by unfold hZ hG at *; omega
theorem is_parts {st : AS} {x : Int} (h : isA st x = true) : hP x < st.2.1.length ∧ isC (st.2.1.getD (hP x) newP).2.1 (hO x) = true ∧ gn.ofC st.2.2 (hZ x) = hG x := by
  unfold isA at h
  simp only [Bool.and_eq_true] at h
  exact ⟨of_decide_eq_true h.1, h.2.1, of_decide_eq_true h.2.2⟩
theorem one_of {st : AS} {x y : Int} (hx : isA st x = true) (hy : isA st y = true) (h : hZ x = hZ y) : x = y :=
  x_of h (by rw [← (is_parts hx).2.2, ← (is_parts hy).2.2, h])
theorem padT_nil (s : Nat) : padT s ByteArray.empty = strOfNums (List.replicate s 0) := by
  unfold padT
  apply ByteArray.ext
  rw [ByteArray.data_append]
  show #[] ++ _ = _
  rw [Array.empty_append]
  rfl
section
variable {s : Nat} {st : AS} {x y : Int}
theorem rd_free (hu : Pu s st) (hx : hR x) (hy : hR y) (h : isA st x = true) (h' : isA (frA y st) x = true) : rdA s x (frA y st) = rdA s x st := by
  have hz : isA st y = true → hZ x ≠ hZ y := fun hn e => by
    rw [is_free hx.1 hx.2 hy.1 hy.2, hn, decide_eq_true e] at h'
    simp at h'
  unfold rdA
  rw [if_pos h, if_pos h']
  unfold frA
  by_cases hn : isA st y = true
  · rw [if_pos hn]
    have hl := (is_parts hn).1
    simp only
    rw [getD_set hl]
    by_cases e : hP x = hP y
    · rw [if_pos e, ← e]
      refine fr_rd (hu.1 _ (getD_mem (is_parts h).1)) (is_parts h).2.1 (fun e2 => hz hn ?_)
      rw [h_z hx.1 hx.2, h_z hy.1 hy.2, e, e2]
    · rw [if_neg e]
  · rw [if_neg hn]
theorem rd_write {Tx : ByteArray} (hu : Pu s st) (hx : hR x) (hy : hR y) (h : isA st x = true) : rdA s x (wrA s y Tx st) = if x = y ∧ Tx.size ≤ s then padT s Tx else rdA s x st := by
  have h' : isA (wrA s y Tx st) x = true := by rw [is_write]; exact h
  unfold rdA
  rw [if_pos h, if_pos h']
  unfold wrA
  by_cases hn : isA st y = true
  · rw [if_pos hn]
    have hl := (is_parts hn).1
    simp only
    rw [getD_set hl]
    by_cases e : hP x = hP y
    · rw [if_pos e, ← e, wr_rd (hu.1 _ (getD_mem (is_parts h).1)) (is_parts h).2.1]
      have hiff : hO x = hO y ↔ x = y := ⟨fun e2 => one_of h hn (by rw [h_z hx.1 hx.2, h_z hy.1 hy.2, e, e2]), fun e2 => by rw [e2]⟩
      by_cases e2 : x = y ∧ Tx.size ≤ s
      · rw [if_pos e2, if_pos ⟨hiff.2 e2.1, e2.2⟩]
      · rw [if_neg e2, if_neg (fun q => e2 ⟨hiff.1 q.1, q.2⟩)]
    · rw [if_neg e, if_neg (fun q => e (by rw [q.1]))]
  · rw [if_neg hn, if_neg (fun q => hn (by rw [← q.1]; exact h))]
theorem rd_put {l : Nat} {L : List PS} (hu : Pu s st) (hl : l < L.length) (hl2 : L.length ≤ 4096) (hL : L = st.2.1 ∨ L = st.2.1 ++ [newP] ∧ l = st.2.1.length) (kP : PgOk s (L.getD l newP)) (hn : fullP s (L.getD l newP) = false) (hx : hR x) (h : isA st x = true) (h' : isA (putA s l L st.2.2).1 x = true) : rdA s x (putA s l L st.2.2).1 = rdA s x st := by
  have hp := is_parts h
  have hg : st.2.1.getD (hP x) newP = L.getD (hP x) newP := by
    rcases hL with e | ⟨rfl, _⟩
    · rw [e]
    · rw [List.getD_eq_getElem?_getD, List.getD_eq_getElem?_getD, List.getElem?_append_left hp.1]
  unfold rdA
  rw [if_pos h, if_pos h']
  unfold putA
  simp only
  rw [getD_set hl, hg]
  by_cases e : hP x = l
  · rw [if_pos e, e]
    refine al_rd kP hn ?_
    rw [← e, ← hg]
    exact hp.2.1
  · rw [if_neg e]
theorem rd_put_new {l : Nat} {L : List PS} (hl : l < L.length) (hl2 : L.length ≤ 4096) (kP : PgOk s (L.getD l newP)) (hn : fullP s (L.getD l newP) = false) (h' : isA (putA s l L st.2.2).1 (putA s l L st.2.2).2.1 = true) : rdA s (putA s l L st.2.2).2.1 (putA s l L st.2.2).1 = padT s ByteArray.empty := by
  have ho := (kP.next hn).1
  have hrg : gn.rg (zOf l (nextO s (L.getD l newP))) := by show _ ∧ _; unfold zOf; omega
  obtain ⟨g, hg⟩ : ∃ g, (gn.ofC st.2.2 (zOf l (nextO s (L.getD l newP))) + 1) % 4294967296 = g := ⟨_, rfl⟩
  have hmk := h_mk hrg (g := g) (by omega) (by omega)
  have hx0 : (putA s l L st.2.2).2.1 = zOf l (nextO s (L.getD l newP)) * 4294967296 + g := by unfold putA; simp only; rw [hg]
  have hz := h_z hmk.2.2.1 hmk.2.2.2
  have hq := h_parts hmk.2.2.1 hmk.2.2.2
  rw [← hx0] at hmk hz hq
  have e2 := (z_inj (i := hP (putA s l L st.2.2).2.1) (o := hO (putA s l L st.2.2).2.1) (l := l) (k := nextO s (L.getD l newP)) hq.2.1 hq.2.2.1 (by omega)).1 (by rw [← hz]; exact hmk.1)
  unfold rdA
  rw [if_pos h', e2.1, e2.2, padT_nil]
  have : (putA s l L st.2.2).1.2.1 = L.set l (alS s (L.getD l newP)) := rfl
  rw [this, getD_set hl, if_pos rfl]
  exact al_rd_new kP hn
end
/-- what became of what is read -/
structure StpR (s : Nat) (st st' : AS) (U : List Int) (x0 : Int) (is : Bool) (t : Stp) : Prop where
  same : ∀ x, hR x → isA st x = true → isA st' x = true → ¬ (t.1 = 2 ∧ x = ofS t U ∧ t.2.2.2.size ≤ s) → rdA s x st' = rdA s x st
  wrote : ∀ x, hR x → isA st x = true → t.1 = 2 → x = ofS t U → t.2.2.2.size ≤ s → rdA s x st' = padT s t.2.2.2
  new : is = true → t.1 ≠ 2 ∧ rdA s x0 st' = padT s ByteArray.empty
theorem TI.stepR {s : Nat} {st : AS} {U : List Int} {K : Nat} {t : Stp} (h : TI st U K) (hK : K ≤ 100000) (hu : Pu s st) (h2 : 2 ≤ s) (h4 : s ≤ 4096) (ht : StpOk t) :
    StpR s st (doS s t U st).1 U (doS s t U st).2.1 (doS s t U st).2.2 t := by
  have hofs := ofS_rg ht (U := U) (fun x hx => (h.told x hx).1)
  have hst := h.step hK hu h2 h4 ht
  unfold doS at hst ⊢
  by_cases e0 : t.1 = 0
  · rw [if_pos e0] at hst ⊢
    have e2 : t.1 ≠ 2 := by omega
    rcases alA_cases h2 h4 hu.1 hu.2.2.1 hu.2.2.2 with e | ⟨l, L, e, _, h5, h6, h7, h8, h9⟩
    · rw [e]
      exact ⟨fun x _ q q2 _ => by unfold rdA; rw [if_pos q, if_pos q2], fun x _ _ q => absurd q e2, fun q => by cases q⟩
    · rw [e] at hst ⊢
      exact ⟨fun x hx q q2 _ => rd_put hu h5 h6 h7 h8 h9 hx q q2, fun x _ _ q => absurd q e2, fun q => ⟨e2, rd_put_new h5 h6 h8 h9 (hst.new q).2.2⟩⟩
  · rw [if_neg e0]
    by_cases e1 : t.1 = 1
    · rw [if_pos e1]
      have e2 : t.1 ≠ 2 := by omega
      exact ⟨fun x hx q q2 _ => rd_free hu hx hofs q q2, fun x _ _ q => absurd q e2, fun q => by cases q⟩
    · rw [if_neg e1]
      by_cases e2 : t.1 = 2
      · rw [if_pos e2]
        refine ⟨fun x hx q q2 hn => ?_, fun x hx q _ e hs => ?_, fun q => by cases q⟩
        · rw [rd_write hu hx hofs q, if_neg (fun r => hn ⟨e2, r.1, r.2⟩)]
        · rw [rd_write hu hx hofs q, if_pos ⟨e, hs⟩]
      · rw [if_neg e2]
        exact ⟨fun x _ _ _ _ => rfl, fun x _ _ q => absurd q e2, fun q => by cases q⟩
/-- the row of what each handle has -/
def hasOf (s : Nat) (t : Stp) (own : Int) (U : List Int) (H : List ByteArray) (j : Nat) : ByteArray := if t.1 = 2 ∧ U.getD j 0 = own ∧ t.2.2.2.size ≤ s then t.2.2.2 else H.getD j ByteArray.empty
theorem getD_appH {H : List ByteArray} {x : ByteArray} {k : Nat} : (H ++ [x]).getD k ByteArray.empty = if k < H.length then H.getD k ByteArray.empty else if k = H.length then x else ByteArray.empty := by
  rw [List.getD_eq_getElem?_getD]
  by_cases h : k < H.length
  · rw [if_pos h, List.getElem?_append_left h, List.getD_eq_getElem?_getD]
  · rw [if_neg h, List.getElem?_append_right (by omega)]
    by_cases e : k = H.length
    · rw [if_pos e, e]; simp
    · rw [if_neg e, List.getElem?_eq_none (by simp; omega)]; rfl
theorem has_step {s K : Nat} {st st' : AS} {U : List Int} {x0 : Int} {is : Bool} {t : Stp} {H : List ByteArray} (hT : TI st U K) (hS : Stp1 s st st' U x0 is K) (hR_ : StpR s st st' U x0 is t) (hl : H.length = U.length) (hh : ∀ j, j < U.length → isA st (U.getD j 0) = true → rdA s (U.getD j 0) st = padT s (H.getD j ByteArray.empty) ∧ (H.getD j ByteArray.empty).size ≤ s) :
    ∀ j, j < (if is then U ++ [x0] else U).length → isA st' ((if is then U ++ [x0] else U).getD j 0) = true → rdA s ((if is then U ++ [x0] else U).getD j 0) st' = padT s (hasOf s t (ofS t U) (if is then U ++ [x0] else U) (if is then H ++ [ByteArray.empty] else H) j) ∧ (hasOf s t (ofS t U) (if is then U ++ [x0] else U) (if is then H ++ [ByteArray.empty] else H) j).size ≤ s := by
  intro j hj hi
  by_cases hjl : j < U.length
  · have e1 : (if is then U ++ [x0] else U).getD j 0 = U.getD j 0 := by
      cases is
      · rfl
      · rw [if_pos rfl, getD_appU, if_pos hjl]
    have e2 : (if is then H ++ [ByteArray.empty] else H).getD j ByteArray.empty = H.getD j ByteArray.empty := by
      cases is
      · rfl
      · rw [if_pos rfl, getD_appH, if_pos (by omega)]
    unfold hasOf
    rw [e1] at hi ⊢
    rw [e2]
    have hm := hT.told _ (getD_memU hjl)
    have hi0 : isA st (U.getD j 0) = true := by
      cases e : isA st (U.getD j 0) with
      | true => rfl
      | false => rw [hS.gone _ hm.1 hm.2 e] at hi; cases hi
    by_cases c : t.1 = 2 ∧ U.getD j 0 = ofS t U ∧ t.2.2.2.size ≤ s
    · rw [if_pos c]
      exact ⟨hR_.wrote _ hm.1 hi0 c.1 c.2.1 c.2.2, c.2.2⟩
    · rw [if_neg c, hR_.same _ hm.1 hi0 hi c]
      exact hh j hjl hi0
  · cases is with
    | false => rw [if_neg (by decide)] at hj; omega
    | true =>
      rw [if_pos rfl, List.length_append] at hj
      simp only [List.length_cons, List.length_nil] at hj
      have e1 : (U ++ [x0]).getD j 0 = x0 := by rw [getD_appU, if_neg hjl, if_pos (by omega)]
      have e2 : (H ++ [ByteArray.empty]).getD j ByteArray.empty = ByteArray.empty := by rw [getD_appH, if_neg (by omega), if_pos (by omega)]
      obtain ⟨n1, n2⟩ := hR_.new rfl
      unfold hasOf
      rw [if_pos rfl, if_pos rfl, e1, e2, if_neg (fun q => n1 q.1), n2]
      exact ⟨rfl, Nat.zero_le _⟩
end Go.Proofs.Ytbncpfkoeahhpaa
