/- Handles that were told, step by step. -/
import Derived.Test.YtbncpfkoeahhpaaGM
namespace Go.Proofs.Ytbncpfkoeahhpaa
open Go.ChangeShapes Go.WideShapes Go.ChangeAt Go.RowKit Go.Maps
set_option linter.unusedVariables false
set_option linter.unusedSimpArgs false

abbrev HM : Int := 18446744073709551615
def hR (x : Int) : Prop := 0 ≤ x ∧ x ≤ HM
abbrev Pu (s : Nat) (st : AS) : Prop := (∀ P ∈ st.2.1, PgOk s P) ∧ gn.Ok st.2.2 ∧ st.1 ≤ st.2.1.length ∧ st.2.1.length ≤ 4096
structure TI (st : AS) (U : List Int) (K : Nat) : Prop where
  glen : st.2.2.length ≤ K
  gmax : ∀ z, 0 ≤ gn.ofC st.2.2 z ∧ gn.ofC st.2.2 z ≤ (K : Int)
  pos : ∀ x, hR x → isA st x = true → 1 ≤ hG x
  told : ∀ x ∈ U, hR x ∧ hG x ≤ gn.ofC st.2.2 (hZ x)
  unq : U.Nodup
theorem TI.nil : TI (0, [], []) [] 0 := ⟨Nat.le_refl _, fun z => ⟨Int.le_refl _, Int.le_refl _⟩, (fun x _ h => by simp [isA] at h), (fun x h => by cases h), List.nodup_nil⟩
theorem TI.zero {st : AS} {U : List Int} {K : Nat} (h : TI st U K) : isA st 0 = false := by
  cases e : isA st 0 with
  | false => rfl
  | true =>
    have := h.pos 0 ⟨Int.le_refl _, by decide⟩ e
    unfold hG at this
    omega
/-- what became: of handles, of the row of those that were told -/
structure Stp1 (s : Nat) (st st' : AS) (U : List Int) (x0 : Int) (is : Bool) (K : Nat) : Prop where
  ti : TI st' (if is then U ++ [x0] else U) (K + 1)
  gone : ∀ x, hR x → hG x ≤ gn.ofC st.2.2 (hZ x) → isA st x = false → isA st' x = false
  new : is = true → hR x0 ∧ x0 ∉ U ∧ isA st' x0 = true
theorem put_step {s l : Nat} {st : AS} {U : List Int} {K : Nat} {L : List PS} (h : TI st U K) (hK : K ≤ 100000) (hu : Pu s st) (hl : l < L.length) (hl2 : L.length ≤ 4096) (hL : L = st.2.1 ∨ L = st.2.1 ++ [newP] ∧ l = st.2.1.length) (kP : PgOk s (L.getD l newP)) (hn : fullP s (L.getD l newP) = false) :
    Stp1 s st (putA s l L st.2.2).1 U (putA s l L st.2.2).2.1 true K := by
  have ho := (kP.next hn).1
  obtain ⟨z, hz⟩ : ∃ z, zOf l (nextO s (L.getD l newP)) = z := ⟨_, rfl⟩
  have hrg : gn.rg z := by rw [← hz]; show _ ∧ _; unfold zOf; omega
  have hm := h.gmax z
  have he : (gn.ofC st.2.2 z + 1) % 4294967296 = gn.ofC st.2.2 z + 1 := by omega
  have hwf : (Lit.int .u32 (gn.ofC st.2.2 z + 1)).wf = true := wf32 (by omega) (by omega)
  have hpi : ∀ x, hR x → isA (putA s l L st.2.2).1 x = if hZ x = z then decide (gn.ofC st.2.2 z + 1 = hG x) else isA st x := fun x hx => by
    have := put_is hu.2.1 hl hl2 hL kP hn hx.1 hx.2
    rw [hz, he] at this
    exact this
  have hmk := h_mk hrg (show 0 ≤ gn.ofC st.2.2 z + 1 by omega) (by omega)
  have hx0 : (putA s l L st.2.2).2.1 = z * 4294967296 + (gn.ofC st.2.2 z + 1) := by unfold putA; simp only; rw [hz, he]
  have hg' : (putA s l L st.2.2).1.2.2 = gn.putC st.2.2 z (gn.ofC st.2.2 z + 1) := by unfold putA; simp only; rw [hz, he]
  have hof : ∀ y, gn.ofC (putA s l L st.2.2).1.2.2 y = if y = z then gn.ofC st.2.2 z + 1 else gn.ofC st.2.2 y := fun y => by
    rw [hg']
    by_cases e : y = z
    · rw [if_pos e, e, gn.of_put hu.2.1 hrg hwf]
    · rw [if_neg e, gn.of_put_ne hu.2.1 hrg hwf e]
  rw [hx0]
  have hnew : z * 4294967296 + (gn.ofC st.2.2 z + 1) ∉ U := fun hm2 => by
    have := (h.told _ hm2).2
    rw [hmk.1, hmk.2.1] at this
    omega
  refine ⟨⟨?_, fun y => ?_, fun x hx e => ?_, fun x hx => ?_, ?_⟩, fun x hx hg e => ?_, fun _ => ⟨⟨hmk.2.2.1, hmk.2.2.2⟩, hnew, ?_⟩⟩
  · rw [hg']
    have := gn.len_put st.2.2 z (gn.ofC st.2.2 z + 1)
    have := h.glen
    omega
  · rw [hof]
    have := h.gmax y
    split <;> omega
  · rw [hpi x hx] at e
    by_cases ez : hZ x = z
    · rw [if_pos ez] at e
      have := of_decide_eq_true e
      omega
    · rw [if_neg ez] at e
      exact h.pos x hx e
  · rw [if_pos rfl] at hx
    rcases List.mem_append.1 hx with hx | hx
    · refine ⟨(h.told x hx).1, ?_⟩
      rw [hof]
      have := (h.told x hx).2
      split
      · rename_i e; rw [e] at this; omega
      · exact this
    · obtain rfl := List.mem_singleton.1 hx
      refine ⟨⟨hmk.2.2.1, hmk.2.2.2⟩, ?_⟩
      rw [hof, hmk.1, hmk.2.1, if_pos rfl]
      exact Int.le_refl _
  · rw [if_pos rfl]
    refine List.nodup_append.2 ⟨h.unq, List.nodup_cons.2 ⟨(fun h => by cases h), List.nodup_nil⟩, fun a ha b hb e => ?_⟩
    obtain rfl := List.mem_singleton.1 hb
    exact hnew (e ▸ ha)
  · rw [hpi x hx]
    by_cases ez : hZ x = z
    · rw [if_pos ez]
      rw [ez] at hg
      exact decide_eq_false (by omega)
    · rw [if_neg ez]; exact e
  · rw [hpi _ ⟨hmk.2.2.1, hmk.2.2.2⟩, if_pos hmk.1, hmk.2.1]
    exact decide_eq_true rfl
theorem low_is {st : AS} {l : Nat} {x : Int} : isA (l, st.2.1, st.2.2) x = isA st x := rfl
theorem TI.step {s : Nat} {st : AS} {U : List Int} {K : Nat} {t : Stp} (h : TI st U K) (hK : K ≤ 100000) (hu : Pu s st) (h2 : 2 ≤ s) (h4 : s ≤ 4096) (ht : StpOk t) :
    Stp1 s st (doS s t U st).1 U (doS s t U st).2.1 (doS s t U st).2.2 K := by
  have hup : TI st U (K + 1) := ⟨Nat.le_succ_of_le h.glen, fun z => ⟨(h.gmax z).1, by have := (h.gmax z).2; omega⟩, h.pos, h.told, h.unq⟩
  have hofs := ofS_rg ht (U := U) (fun x hx => (h.told x hx).1)
  unfold doS
  by_cases e0 : t.1 = 0
  · rw [if_pos e0]
    rcases alA_cases h2 h4 hu.1 hu.2.2.1 hu.2.2.2 with e | ⟨l, L, e, _, h5, h6, h7, h8, h9⟩
    · rw [e]
      exact ⟨⟨hup.glen, hup.gmax, hup.pos, hup.told, hup.unq⟩, fun x _ _ q => q, fun q => by cases q⟩
    · rw [e]
      exact put_step h hK hu h5 h6 h7 h8 h9
  · rw [if_neg e0]
    by_cases e1 : t.1 = 1
    · rw [if_pos e1]
      have hg : (frA (ofS t U) st).2.2 = st.2.2 := by unfold frA; split <;> rfl
      have hi : ∀ x, hR x → isA (frA (ofS t U) st) x = true → isA st x = true := fun x hx q => by
        rw [is_free hx.1 hx.2 hofs.1 hofs.2, Bool.and_eq_true] at q
        exact q.1
      refine ⟨⟨by rw [hg]; exact hup.glen, fun z => by rw [hg]; exact hup.gmax z, fun x hx q => h.pos x hx (hi x hx q), fun x hx => by rw [hg]; exact h.told x hx, h.unq⟩, fun x hx _ q => ?_, fun q => by cases q⟩
      cases e : isA (frA (ofS t U) st) x with
      | false => rfl
      | true => rw [hi x hx e] at q; cases q
    · rw [if_neg e1]
      by_cases e2 : t.1 = 2
      · rw [if_pos e2]
        have hg : (wrA s (ofS t U) t.2.2.2 st).2.2 = st.2.2 := by unfold wrA; split <;> rfl
        refine ⟨⟨by rw [hg]; exact hup.glen, fun z => by rw [hg]; exact hup.gmax z, fun x hx q => h.pos x hx (by rw [is_write] at q; exact q), fun x hx => by rw [hg]; exact h.told x hx, h.unq⟩, fun x hx _ q => by rw [is_write]; exact q, fun q => by cases q⟩
      · rw [if_neg e2]
        exact ⟨hup, fun x _ _ q => q, fun q => by cases q⟩
end Go.Proofs.Ytbncpfkoeahhpaa
