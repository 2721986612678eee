/- What the steps make of handles, and of what is read. -/
import Derived.Test.YtbncpfkoeahhpaaGT
namespace Go.Proofs.Ytbncpfkoeahhpaa
open Go.ChangeShapes Go.WideShapes Go.ChangeAt Go.RowKit Go.Maps
set_option linter.unusedVariables false
set_option linter.unusedSimpArgs false

structure PgOk (s : Nat) (P : PS) : Prop where
  inv : InvS s P
  up : P.2.1.Pairwise (fun p q => p < q)
theorem AR.pure {W : World} {B a s : Nat} {st : AS} {S : Nat → Prop} (h : AR W B a s st S) : (∀ P ∈ st.2.1, PgOk s P) ∧ gn.Ok st.2.2 ∧ st.1 ≤ st.2.1.length ∧ st.2.1.length ≤ 4096 := by
  obtain ⟨g, v, Ps, ha, hm, _, h1, h2⟩ := h
  refine ⟨fun P hP => ?_, ha.gok, h1, h2⟩
  rw [← hm] at hP
  obtain ⟨x, hx, rfl⟩ := List.mem_map.1 hP
  exact ⟨(ha.pgs x hx).inv, (ha.pgs x hx).up⟩
theorem PgOk.new {s : Nat} (h2 : 2 ≤ s) : PgOk s newP := ⟨by
  have := Inv.new h2
  show Inv s 0 ((0 * s : Nat) : Int) 65535 [] (List.replicate 4096 0) []
  rw [Nat.zero_mul]; exact this, List.Pairwise.nil⟩
theorem PgOk.next {s : Nat} {P : PS} (h : PgOk s P) (hn : fullP s P = false) : nextO s P + s ≤ 4096 ∧ isC P.2.1 ((nextO s P : Nat) : Int) = false ∧ (alS s P).2.1 = putC P.2.1 ((nextO s P : Nat) : Int) ∧ (alS s P).2.2.1 = fillZ P.2.2.1 (nextO s P) s := by
  obtain ⟨m, C, bs, F⟩ := P
  have hi : Inv s m ((m * s : Nat) : Int) (hdF F) C bs F := h.inv
  have hf : C.length ≠ 4096 / s := of_decide_eq_false hn
  have hs := hi.s2
  have hct := hi.ct
  have hle := hi.le
  have hmd : m ≤ 4096 / s := (Nat.le_div_iff_mul_le (by omega)).2 hle
  unfold alS nextO
  simp only
  rw [if_neg hf]
  cases F with
  | nil =>
    have hm1 : (m + 1) * s ≤ 4096 := (Nat.le_div_iff_mul_le (by omega)).1 (by simp at hct; omega)
    have hms : m * s + s ≤ 4096 := by rw [Nat.add_mul, Nat.one_mul] at hm1; exact hm1
    exact ⟨hms, isC_no (hi.room hm1 rfl).1, rfl, rfl⟩
  | cons f r => exact ⟨hi.back.1, isC_no hi.back.2.1, rfl, rfl⟩
theorem PgOk.lenb {s : Nat} {P : PS} (h : PgOk s P) : P.2.2.1.length = 4096 := (show Inv s P.1 _ _ P.2.1 P.2.2.1 P.2.2.2 from h.inv).len
theorem PgOk.o_rg {s : Nat} {P : PS} (h : PgOk s P) {o : Int} (ho : isC P.2.1 o = true) : 0 ≤ o ∧ o.toNat + s ≤ 4096 ∧ ((o.toNat : Nat) : Int) = o := by
  obtain ⟨k, rfl, h1, _⟩ := (show Inv s P.1 _ _ P.2.1 P.2.2.1 P.2.2.2 from h.inv).at_ (is_mem.1 ho)
  exact ⟨by omega, by omega, by omega⟩
theorem PgOk.next_apart {s : Nat} {P : PS} (h : PgOk s P) (hn : fullP s P = false) {o : Int} (ho : isC P.2.1 o = true) : o.toNat + s ≤ nextO s P ∨ nextO s P + s ≤ o.toNat := by
  obtain ⟨m, C, bs, F⟩ := P
  have hi : Inv s m ((m * s : Nat) : Int) (hdF F) C bs F := h.inv
  have hs := hi.s2
  obtain ⟨i, hlt, e1⟩ := hi.cm o (is_mem.1 ho)
  have e1' : o.toNat = i * s := by omega
  unfold nextO
  simp only
  have hne := (h.next hn).2.1
  unfold nextO at hne
  simp only at hne
  cases F with
  | nil =>
    simp only at hne ⊢
    rw [e1']
    exact apart_mul (by omega)
  | cons f r =>
    simp only at hne ⊢
    obtain ⟨j, hj, ej⟩ := hi.fm f (List.mem_cons_self ..)
    rw [e1', ej]
    refine apart_mul (fun e => ?_)
    rw [e1, e, ← ej, hne] at ho
    cases ho
/-- pages, one by one -/
theorem al_isC {s : Nat} {P : PS} (h : PgOk s P) (hn : fullP s P = false) (o : Int) : isC (alS s P).2.1 o = (decide (o = ((nextO s P : Nat) : Int)) || isC P.2.1 o) := by
  rw [(h.next hn).2.2.1, isC_put]
theorem al_rd {s : Nat} {P : PS} (h : PgOk s P) (hn : fullP s P = false) {o : Int} (ho : isC P.2.1 o = true) : rdT s o (alS s P) = rdT s o P := by
  unfold rdT
  rw [al_isC h hn, ho, Bool.or_true, if_pos rfl, if_pos rfl, (h.next hn).2.2.2]
  exact rdS_out (out_fill (by rw [h.lenb]; exact (h.next hn).1)) (h.next_apart hn ho)
theorem al_rd_new {s : Nat} {P : PS} (h : PgOk s P) (hn : fullP s P = false) : rdT s ((nextO s P : Nat) : Int) (alS s P) = strOfNums (List.replicate s 0) := by
  unfold rdT
  rw [al_isC h hn, decide_eq_true rfl, Bool.true_or, if_pos rfl, (h.next hn).2.2.2]
  exact fill_rd (by rw [h.lenb]; exact (h.next hn).1)
theorem fr_isC {P : PS} (x o : Int) : isC (frS x P).2.1 o = (isC P.2.1 o && decide (o ≠ x)) := by
  unfold frS
  by_cases h : isC P.2.1 x = true
  · rw [if_pos h]; exact isC_del
  · rw [if_neg h]
    by_cases e : o = x
    · subst e
      have : isC P.2.1 o = false := by simpa using h
      rw [this]; rfl
    · simp [e]
theorem fr_rd {s : Nat} {P : PS} (h : PgOk s P) {x o : Int} (ho : isC P.2.1 o = true) (hne : o ≠ x) : rdT s o (frS x P) = rdT s o P := by
  unfold rdT
  rw [fr_isC, ho, decide_eq_true hne, Bool.and_true, if_pos rfl, if_pos rfl]
  unfold frS
  by_cases hx : isC P.2.1 x = true
  · rw [if_pos hx]
    have hi : Inv s P.1 _ _ P.2.1 P.2.2.1 P.2.2.2 := h.inv
    exact rdS_out (out_put _ hi.s2) (hi.apart (is_mem.1 ho) (is_mem.1 hx) hne)
  · rw [if_neg hx]
theorem wr_isC {s : Nat} {P : PS} (x : Int) (Tx : ByteArray) (o : Int) : isC (wrS s x Tx P).2.1 o = isC P.2.1 o := by unfold wrS; split <;> rfl
theorem wr_rd {s : Nat} {P : PS} (h : PgOk s P) {x o : Int} {Tx : ByteArray} (ho : isC P.2.1 o = true) : rdT s o (wrS s x Tx P) = if o = x ∧ Tx.size ≤ s then padT s Tx else rdT s o P := by
  unfold rdT
  rw [wr_isC, ho, if_pos rfl, if_pos rfl]
  unfold wrS
  have hi : Inv s P.1 _ _ P.2.1 P.2.2.1 P.2.2.2 := h.inv
  by_cases hx : isC P.2.1 x = true ∧ Tx.size ≤ s
  · rw [if_pos hx]
    obtain ⟨r0, r1, r2⟩ := h.o_rg hx.1
    have hl : x.toNat + s ≤ P.2.2.1.length := by rw [h.lenb]; exact r1
    by_cases e : o = x
    · subst e
      rw [if_pos ⟨rfl, hx.2⟩]
      exact write_rd hx.2 hl
    · rw [if_neg (fun q => e q.1)]
      exact rdS_out (out_write hx.2 hl) (hi.apart (is_mem.1 ho) (is_mem.1 hx.1) e)
  · rw [if_neg hx, if_neg (fun q => hx ⟨by rw [← q.1]; exact ho, q.2⟩)]
/-- how often a slot was given -/
theorem gn.of_put_ne {G : List gn.Ct} (h : gn.Ok G) {z n y : Int} (hz : gn.rg z) (hn : (Lit.int .u32 n).wf = true) (hy : y ≠ z) : gn.ofC (gn.putC G z n) y = gn.ofC G y := by
  by_cases e : gn.isC G y = true
  · have hm := gn.mem_of e
    have h1 : (y, gn.ofC G y) ∈ gn.putC G z n := gn.mem_ins.2 (.inr (gn.mem_del.2 ⟨hm, hy⟩))
    exact (gn.of_is (h.put hz hn).up h1).2
  · have e0 : gn.isC G y = false := by simpa using e
    rw [gn.of_none0 e0]
    refine gn.of_none0 ?_
    cases e2 : gn.isC (gn.putC G z n) y with
    | false => rfl
    | true =>
      have hm := gn.mem_of e2
      rcases gn.mem_ins.1 hm with h3 | h3
      · exact absurd (congrArg Prod.fst h3) hy
      · have h4 := (gn.mem_del.1 h3).1
        have h5 := (gn.of_is h.up h4).1
        simp only at h5
        rw [h5] at e0; cases e0
/-- a handle's parts -/
theorem h_z {x : Int} (h0 : 0 ≤ x) (h1 : x ≤ 18446744073709551615) : hZ x = (hP x : Int) * 65536 + hO x := by unfold hZ hP hO; omega
theorem h_mk {z g : Int} (hz : gn.rg z) (h0 : 0 ≤ g) (h1 : g ≤ 4294967295) : hZ (z * 4294967296 + g) = z ∧ hG (z * 4294967296 + g) = g ∧ 0 ≤ z * 4294967296 + g ∧ z * 4294967296 + g ≤ 18446744073709551615 := by
  obtain ⟨a, b⟩ := hz
  unfold hZ hG
  omega
theorem z_inj {i : Nat} {o : Int} {l k : Nat} (h0 : 0 ≤ o) (h1 : o ≤ 65535) (hk : k ≤ 65535) : (i : Int) * 65536 + o = zOf l k ↔ i = l ∧ o = (k : Int) := by unfold zOf; omega
theorem getD_set {L : List PS} {l i : Nat} {P : PS} (h : l < L.length) : (L.set l P).getD i newP = if i = l then P else L.getD i newP := by
  rw [List.getD_eq_getElem?_getD, List.getElem?_set, List.getD_eq_getElem?_getD]
  by_cases e : l = i
  · subst e; rw [if_pos rfl, if_pos h, if_pos rfl]; rfl
  · rw [if_neg e, if_neg (Ne.symm e)]
theorem getD_mem {L : List PS} {i : Nat} (h : i < L.length) : L.getD i newP ∈ L := by
  rw [List.getD_eq_getElem?_getD, List.getElem?_eq_getElem h]; exact List.getElem_mem h
/-- either there is no room, or a page gives -/
theorem alA_cases {s : Nat} {st : AS} (h2 : 2 ≤ s) (h4 : s ≤ 4096) (hp : ∀ P ∈ st.2.1, PgOk s P) (hlo : st.1 ≤ st.2.1.length) (hln : st.2.1.length ≤ 4096) :
    alA s st = ((lowL s st.1 st.2.1, st.2.1, st.2.2), 0, 41) ∨ ∃ l L, alA s st = putA s l L st.2.2 ∧ l = lowL s st.1 st.2.1 ∧ l < L.length ∧ L.length ≤ 4096 ∧ (L = st.2.1 ∨ L = st.2.1 ++ [newP] ∧ l = st.2.1.length) ∧ PgOk s (L.getD l newP) ∧ fullP s (L.getD l newP) = false := by
  have hle := lowL_le (s := s) hlo
  have his := lowL_is s st.2.1 _ st.1 rfl hlo
  unfold alA
  by_cases h : lowL s st.1 st.2.1 < st.2.1.length
  · rw [if_pos h]
    refine .inr ⟨_, _, rfl, rfl, h, hln, .inl rfl, hp _ (getD_mem h), ?_⟩
    exact his.2 _ (by rw [List.getElem?_eq_getElem h, List.getD_eq_getElem?_getD, List.getElem?_eq_getElem h]; rfl)
  · rw [if_neg h]
    by_cases h6 : st.2.1.length = 4096
    · rw [if_pos h6]; exact .inl rfl
    · rw [if_neg h6]
      have e : lowL s st.1 st.2.1 = st.2.1.length := by omega
      have hg : (st.2.1 ++ [newP]).getD (lowL s st.1 st.2.1) newP = newP := by
        rw [e, List.getD_eq_getElem?_getD, List.getElem?_append_right (Nat.le_refl _)]
        simp
      refine .inr ⟨_, _, rfl, rfl, by simp; omega, by simp; omega, .inr ⟨rfl, e⟩, by rw [hg]; exact PgOk.new h2, ?_⟩
      rw [hg]
      unfold fullP newP
      have : 1 ≤ 4096 / s := (Nat.le_div_iff_mul_le (by omega)).2 (by omega)
      exact decide_eq_false (by simp; omega)
section
variable {s l : Nat} {st : AS} {L : List PS}
/-- what is named behind a page gave -/
theorem put_is (kG : gn.Ok st.2.2) (hl : l < L.length) (hl2 : L.length ≤ 4096) (hL : L = st.2.1 ∨ L = st.2.1 ++ [newP] ∧ l = st.2.1.length) (kP : PgOk s (L.getD l newP)) (hn : fullP s (L.getD l newP) = false) {x : Int} (h0 : 0 ≤ x) (h1 : x ≤ 18446744073709551615) :
    isA (putA s l L st.2.2).1 x = if hZ x = zOf l (nextO s (L.getD l newP)) then decide ((gn.ofC st.2.2 (zOf l (nextO s (L.getD l newP))) + 1) % 4294967296 = hG x) else isA st x := by
  obtain ⟨q1, q2, q3, q4, q5, q6, q7, q8, q9⟩ := h_parts h0 h1
  have ho := (kP.next hn).1
  have hz := h_z h0 h1
  have hrg : gn.rg (zOf l (nextO s (L.getD l newP))) := by show _ ∧ _; unfold zOf; omega
  have hwf : (Lit.int .u32 ((gn.ofC st.2.2 (zOf l (nextO s (L.getD l newP))) + 1) % 4294967296)).wf = true := wf32 (by omega) (by omega)
  unfold isA putA
  simp only [List.length_set]
  rw [getD_set hl]
  by_cases e : hZ x = zOf l (nextO s (L.getD l newP))
  · have e2 := (z_inj (i := hP x) (o := hO x) (l := l) (k := nextO s (L.getD l newP)) q2 q3 (by omega)).1 (by rw [← hz]; exact e)
    rw [if_pos e, e2.1, if_pos rfl, decide_eq_true hl, Bool.true_and, al_isC kP hn, e2.2, decide_eq_true rfl, Bool.true_or, Bool.true_and, e, gn.of_put kG hrg hwf]
  · rw [if_neg e, gn.of_put_ne kG hrg hwf e]
    have e2 : ¬ (hP x = l ∧ hO x = ((nextO s (L.getD l newP) : Nat) : Int)) := fun q => e (by rw [hz]; exact (z_inj q2 q3 (by omega)).2 q)
    by_cases el : hP x = l
    · rw [if_pos el, al_isC kP hn, decide_eq_false (fun q => e2 ⟨el, q⟩), Bool.false_or]
      rcases hL with rfl | ⟨rfl, e3⟩
      · rw [el]
      · rw [decide_eq_true (show hP x < (st.2.1 ++ [newP]).length by omega), decide_eq_false (show ¬ hP x < st.2.1.length by omega), Bool.false_and, Bool.true_and, e3]
        have hg : (st.2.1 ++ [newP]).getD st.2.1.length newP = newP := by
          rw [List.getD_eq_getElem?_getD, List.getElem?_append_right (Nat.le_refl _)]
          simp
        rw [hg]; rfl
    · rw [if_neg el]
      rcases hL with rfl | ⟨rfl, e3⟩
      · rfl
      · by_cases e4 : hP x < st.2.1.length
        · rw [decide_eq_true e4, decide_eq_true (show hP x < (st.2.1 ++ [newP]).length by rw [List.length_append]; omega)]
          have hg : (st.2.1 ++ [newP]).getD (hP x) newP = st.2.1.getD (hP x) newP := by
            rw [List.getD_eq_getElem?_getD, List.getElem?_append_left e4, List.getD_eq_getElem?_getD]
          rw [hg]
        · rw [decide_eq_false e4, decide_eq_false (show ¬ hP x < (st.2.1 ++ [newP]).length by rw [List.length_append]; simp only [List.length_cons, List.length_nil]; omega)]; rfl
theorem is_free {x y : Int} (hx0 : 0 ≤ x) (hx1 : x ≤ 18446744073709551615) (hy0 : 0 ≤ y) (hy1 : y ≤ 18446744073709551615) : isA (frA y st) x = (isA st x && !(isA st y && decide (hZ x = hZ y))) := by
  unfold frA
  by_cases hy : isA st y = true
  · rw [if_pos hy, hy, Bool.true_and]
    have hly : hP y < st.2.1.length := by
      unfold isA at hy
      rw [Bool.and_eq_true] at hy
      exact of_decide_eq_true hy.1
    have q := h_parts hx0 hx1
    have r := h_parts hy0 hy1
    have hzx := h_z hx0 hx1
    have hzy := h_z hy0 hy1
    unfold isA
    simp only [List.length_set]
    rw [getD_set hly]
    by_cases e : hP x = hP y
    · rw [if_pos e, fr_isC, e]
      by_cases e2 : hO x = hO y
      · rw [decide_eq_true (show hZ x = hZ y by rw [hzx, hzy, e, e2]), decide_eq_false (show ¬ (hO x ≠ hO y) from fun h => h e2)]
        simp
      · rw [decide_eq_false (show ¬ hZ x = hZ y by rw [hzx, hzy]; omega), decide_eq_true e2]
        simp
    · rw [if_neg e, decide_eq_false (show ¬ hZ x = hZ y by rw [hzx, hzy]; omega)]
      simp
  · rw [if_neg hy]
    have : isA st y = false := by simpa using hy
    rw [this]; simp
theorem is_write {x y : Int} {Tx : ByteArray} : isA (wrA s y Tx st) x = isA st x := by
  unfold wrA
  by_cases hy : isA st y = true
  · rw [if_pos hy]
    have hly : hP y < st.2.1.length := by
      unfold isA at hy
      rw [Bool.and_eq_true] at hy
      exact of_decide_eq_true hy.1
    unfold isA
    simp only [List.length_set]
    rw [getD_set hly]
    by_cases e : hP x = hP y
    · rw [if_pos e, wr_isC, e]
    · rw [if_neg e]
  · rw [if_neg hy]
end
end Go.Proofs.Ytbncpfkoeahhpaa
