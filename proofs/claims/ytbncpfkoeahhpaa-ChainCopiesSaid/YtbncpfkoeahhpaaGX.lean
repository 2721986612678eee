/- How many handles name something; how many pages there are. -/
import Derived.Test.YtbncpfkoeahhpaaGV
namespace Go.Proofs.Ytbncpfkoeahhpaa
open Go.ChangeShapes Go.WideShapes Go.ChangeAt Go.RowKit Go.Maps
set_option linter.unusedVariables false
set_option linter.unusedSimpArgs false

theorem nodup_le : ∀ {l m : List Int}, l.Nodup → (∀ x ∈ l, x ∈ m) → l.length ≤ m.length
  | [], _, _, _ => Nat.zero_le _
  | a :: l, m, h, hs => by
    have h1 := List.nodup_cons.1 h
    have hm : a ∈ m := hs a (List.mem_cons_self ..)
    have h2 := nodup_le (m := m.erase a) h1.2 (fun x hx => (List.mem_erase_of_ne (fun e : x = a => h1.1 (by rw [← e]; exact hx))).2 (hs x (List.mem_cons_of_mem _ hx)))
    rw [List.length_erase_of_mem hm] at h2
    have := List.length_pos_of_mem hm
    simp only [List.length_cons]
    omega
theorem countP_add {α : Type} (p q r : α → Bool) (h : ∀ x, (p x).toNat = (q x).toNat + (r x).toNat) : ∀ V : List α, V.countP p = V.countP q + V.countP r
  | [] => rfl
  | a :: V => by
    have h1 := countP_add p q r h V
    have h2 := h a
    rw [List.countP_cons, List.countP_cons, List.countP_cons, h1]
    cases e1 : p a <;> cases e2 : q a <;> cases e3 : r a <;> rw [e1, e2, e3] at h2 <;> simp at h2 ⊢ <;> omega
def cntP (st : AS) (V : List Int) (p : Nat) : Nat := V.countP (fun x => isA st x && decide (hP x = p))
def cntA (st : AS) (V : List Int) : Nat := V.countP (fun x => isA st x)
theorem cntA_app {st : AS} {V : List Int} {x : Int} : cntA st (V ++ [x]) = cntA st V + (isA st x).toNat := by
  unfold cntA
  rw [List.countP_append, List.countP_cons, List.countP_nil, Nat.zero_add]
  cases isA st x <;> rfl
theorem cntP_app {st : AS} {V : List Int} {x : Int} {p : Nat} : cntP st (V ++ [x]) p = cntP st V p + (isA st x && decide (hP x = p)).toNat := by
  unfold cntP
  rw [List.countP_append, List.countP_cons, List.countP_nil, Nat.zero_add]
  cases (isA st x && decide (hP x = p)) <;> rfl
theorem cntA_le {st : AS} {V : List Int} : cntA st V ≤ V.length := List.countP_le_length
section
variable {s : Nat} {st : AS} {V : List Int}
theorem count_page (hu : Pu s st) (hg : ∀ z, 0 ≤ gn.ofC st.2.2 z ∧ gn.ofC st.2.2 z ≤ 4294967295) (hn : V.Nodup) (hr : ∀ x ∈ V, hR x) (ht : ∀ x, hR x → isA st x = true → x ∈ V) {p : Nat} (hp : p < st.2.1.length) : cntP st V p = (st.2.1.getD p newP).2.1.length := by
  have hP_ := hu.1 _ (getD_mem hp)
  have hlen := hu.2.2.2
  unfold cntP
  rw [List.countP_eq_length_filter]
  obtain ⟨F, hF⟩ : ∃ F, V.filter (fun x => isA st x && decide (hP x = p)) = F := ⟨_, rfl⟩
  rw [hF]
  have hmem : ∀ x, x ∈ F ↔ x ∈ V ∧ isA st x = true ∧ hP x = p := fun x => by
    rw [← hF, List.mem_filter, Bool.and_eq_true, decide_eq_true_eq]
  have hnF : F.Nodup := by rw [← hF]; exact hn.filter _
  have hnm : (F.map hO).Nodup := by
    show List.Pairwise _ _
    rw [List.pairwise_map]
    refine List.Pairwise.imp_of_mem (fun {a b} ha hb hne e => hne ?_) hnF
    have h1 := (hmem a).1 ha
    have h2 := (hmem b).1 hb
    have ra := hr a h1.1
    have rb := hr b h2.1
    exact one_of h1.2.1 h2.2.1 (by rw [h_z ra.1 ra.2, h_z rb.1 rb.2, h1.2.2, h2.2.2, e])
  have hnC : (st.2.1.getD p newP).2.1.Nodup := hP_.up.imp (fun h e => by rw [e] at h; exact Int.lt_irrefl _ h)
  have hFl : F.length = (F.map hO).length := by rw [List.length_map]
  rw [hFl]
  refine Nat.le_antisymm ?_ ?_
  · refine nodup_le hnm (fun o ho => ?_)
    obtain ⟨x, hx, rfl⟩ := List.mem_map.1 ho
    have h1 := (hmem x).1 hx
    have h2 := is_parts h1.2.1
    rw [h1.2.2] at h2
    exact is_mem.1 h2.2.1
  · refine nodup_le hnC (fun o ho => ?_)
    obtain ⟨k, rfl, h4, _⟩ := (show Inv s _ _ _ _ _ _ from hP_.inv).at_ ho
    have hgz := hg (zOf p k)
    have hs := (show Inv s _ _ _ _ _ _ from hP_.inv).s2
    have hrg : gn.rg (zOf p k) := by show _ ∧ _; unfold zOf; omega
    have hmk := h_mk hrg (g := gn.ofC st.2.2 (zOf p k)) hgz.1 hgz.2
    obtain ⟨x, hx⟩ : ∃ x, zOf p k * 4294967296 + gn.ofC st.2.2 (zOf p k) = x := ⟨_, rfl⟩
    rw [hx] at hmk
    have hz := h_z hmk.2.2.1 hmk.2.2.2
    have hq := h_parts hmk.2.2.1 hmk.2.2.2
    have e2 := (z_inj (i := hP x) (o := hO x) (l := p) (k := k) hq.2.1 hq.2.2.1 (by omega)).1 (by rw [← hz]; exact hmk.1)
    have hi : isA st x = true := by
      unfold isA
      rw [e2.1, e2.2, hmk.1, hmk.2.1, decide_eq_true hp, is_mem.2 ho, decide_eq_true rfl]
      rfl
    exact List.mem_map.2 ⟨x, (hmem x).2 ⟨ht x hmk.2.2 hi, hi, e2.1⟩, e2.2⟩
theorem count_sum (hu : Pu s st) (hg : ∀ z, 0 ≤ gn.ofC st.2.2 z ∧ gn.ofC st.2.2 z ≤ 4294967295) (hn : V.Nodup) (hr : ∀ x ∈ V, hR x) (ht : ∀ x, hR x → isA st x = true → x ∈ V) : ∀ m, m ≤ st.2.1.length → V.countP (fun x => isA st x && decide (hP x < m)) = sumP st.2.1 m
  | 0, _ => by
    rw [List.countP_eq_zero.2 (fun x _ => by simp)]
    simp [sumP]
  | m + 1, h => by
    have h1 := count_sum hu hg hn hr ht m (by omega)
    have h2 := count_page hu hg hn hr ht (p := m) (by omega)
    unfold cntP at h2
    rw [sumP_succ (by omega), ← h1]
    rw [List.getD_eq_getElem?_getD, List.getElem?_eq_getElem (show m < st.2.1.length by omega)] at h2
    rw [show (st.2.1[m]'(by omega)).2.1.length = V.countP (fun x => isA st x && decide (hP x = m)) from h2.symm]
    refine countP_add _ _ _ (fun x => ?_) V
    cases isA st x
    · rfl
    · simp only [Bool.true_and]
      by_cases a : hP x < m
      · rw [decide_eq_true a, decide_eq_true (show hP x < m + 1 by omega), decide_eq_false (show ¬ hP x = m by omega)]; rfl
      · by_cases b : hP x = m
        · rw [decide_eq_false a, decide_eq_true (show hP x < m + 1 by omega), decide_eq_true b]; rfl
        · rw [decide_eq_false a, decide_eq_false (show ¬ hP x < m + 1 by omega), decide_eq_false b]; rfl
theorem us_sum : usA st = sumP st.2.1 st.2.1.length := by unfold usA sumP; rw [List.take_length]
theorem count_all (hu : Pu s st) (hg : ∀ z, 0 ≤ gn.ofC st.2.2 z ∧ gn.ofC st.2.2 z ≤ 4294967295) (hn : V.Nodup) (hr : ∀ x ∈ V, hR x) (ht : ∀ x, hR x → isA st x = true → x ∈ V) : cntA st V = usA st := by
  rw [us_sum, ← count_sum hu hg hn hr ht _ (Nat.le_refl _)]
  unfold cntA
  refine List.countP_congr (fun x hx => ?_)
  constructor
  · intro h
    rw [h, Bool.true_and]
    exact decide_eq_true (is_parts h).1
  · intro h
    rw [Bool.and_eq_true] at h
    exact h.1
theorem sum_full : ∀ m, m ≤ st.2.1.length → (∀ i, i < m → fullP s (st.2.1.getD i newP) = true) → sumP st.2.1 m = m * (4096 / s)
  | 0, _, _ => by simp [sumP]
  | m + 1, h, hf => by
    have h1 := sum_full m (by omega) (fun i hi => hf i (by omega))
    have h2 : (st.2.1.getD m newP).2.1.length = 4096 / s := of_decide_eq_true (hf m (by omega))
    rw [List.getD_eq_getElem?_getD, List.getElem?_eq_getElem (show m < st.2.1.length by omega)] at h2
    rw [sumP_succ (by omega), h1, Nat.add_mul, Nat.one_mul]
    exact congrArg _ h2
end
structure MI (s : Nat) (st : AS) (U : List Int) (mo : Nat) : Prop where
  lf : ∀ i, i < st.1 → fullP s (st.2.1.getD i newP) = true
  tl : ∀ x, hR x → isA st x = true → x ∈ U
  pg : st.2.1.length = 0 ∨ (st.2.1.length - 1) * (4096 / s) < mo
structure MS (s : Nat) (st st' : AS) (U : List Int) (x0 : Int) (is : Bool) : Prop where
  lf : ∀ i, i < st'.1 → fullP s (st'.2.1.getD i newP) = true
  tl : ∀ x, hR x → isA st' x = true → x ∈ (if is then U ++ [x0] else U)
  len : st'.2.1.length = st.2.1.length ∨ (st'.1 + 1 = st'.2.1.length ∧ 0 < (st'.2.1.getD st'.1 newP).2.1.length)
  low : is = true → hP x0 = st'.1
theorem getD_of {L : List PS} {i : Nat} {P : PS} (h : L[i]? = some P) : L.getD i newP = P := by rw [List.getD_eq_getElem?_getD, h]; rfl
theorem MI.new (s : Nat) : MI s (0, [], []) [] 0 := ⟨fun i h => absurd h (Nat.not_lt_zero _), fun x _ h => by simp [isA] at h, .inl rfl⟩
theorem low_full {s : Nat} {st : AS} {U : List Int} {mo : Nat} (hm : MI s st U mo) (hu : Pu s st) : ∀ i, i < lowL s st.1 st.2.1 → fullP s (st.2.1.getD i newP) = true := fun i hi => by
  by_cases h : i < st.1
  · exact hm.lf i h
  · obtain ⟨P, hP, hf⟩ := (lowL_is s st.2.1 _ st.1 rfl hu.2.2.1).1 i (by omega) hi
    rw [getD_of hP]; exact hf
theorem MI.step {s : Nat} {st : AS} {U : List Int} {K mo : Nat} {t : Stp} (hm : MI s st U mo) (h : TI st U K) (hK : K ≤ 100000) (hu : Pu s st) (h2 : 2 ≤ s) (h4 : s ≤ 4096) (ht : StpOk t) :
    MS s st (doS s t U st).1 U (doS s t U st).2.1 (doS s t U st).2.2 := by
  have hofs := ofS_rg ht (U := U) (fun x hx => (h.told x hx).1)
  have hlf := low_full hm hu
  unfold doS
  by_cases e0 : t.1 = 0
  · rw [if_pos e0]
    rcases alA_cases h2 h4 hu.1 hu.2.2.1 hu.2.2.2 with e | ⟨l, L, e, el, h5, h6, h7, h8, h9⟩
    · rw [e]
      exact ⟨hlf, hm.tl, .inl rfl, fun q => by cases q⟩
    · rw [e]
      have hrg := putA_rg (G := st.2.2) (show l ≤ 4095 by omega) (h8.next h9).1
      have hsl : (putA s l L st.2.2).1.2.1 = L.set l (alS s (L.getD l newP)) := rfl
      have hs1 : (putA s l L st.2.2).1.1 = l := rfl
      refine ⟨fun i hi => ?_, fun x hx q => ?_, ?_, fun _ => hrg.2.1⟩
      · rw [hs1] at hi
        rw [hsl, getD_set h5, if_neg (by omega)]
        have := hlf i (by omega)
        rcases h7 with rfl | ⟨rfl, e3⟩
        · exact this
        · rw [List.getD_eq_getElem?_getD, List.getElem?_append_left (by omega), ← List.getD_eq_getElem?_getD]
          exact this
      · show x ∈ U ++ [_]
        rw [put_is hu.2.1 h5 h6 h7 h8 h9 hx.1 hx.2] at q
        by_cases ez : hZ x = zOf l (nextO s (L.getD l newP))
        · rw [if_pos ez] at q
          have q2 := of_decide_eq_true q
          refine List.mem_append.2 (.inr (List.mem_singleton.2 ?_))
          unfold putA
          simp only
          rw [q2, ← ez]
          unfold hZ hG
          omega
        · rw [if_neg ez] at q
          exact List.mem_append.2 (.inl (hm.tl x hx q))
      · rw [hsl, hs1, List.length_set]
        rcases h7 with rfl | ⟨rfl, e3⟩
        · exact .inl rfl
        · refine .inr ⟨by rw [List.length_append, e3]; rfl, ?_⟩
          rw [getD_set h5, if_pos rfl]
          refine List.length_pos_of_mem (a := ((nextO s ((st.2.1 ++ [newP]).getD l newP) : Nat) : Int)) (is_mem.1 ?_)
          rw [al_isC h8 h9, decide_eq_true rfl, Bool.true_or]
  · rw [if_neg e0]
    by_cases e1 : t.1 = 1
    · rw [if_pos e1]
      refine ⟨fun i hi => ?_, fun x hx q => hm.tl x hx ?_, ?_, fun q => by cases q⟩
      · by_cases hn : isA st (ofS t U) = true
        · rw [frA_yes hn] at hi ⊢
          simp only at hi ⊢
          rw [getD_set (is_parts hn).1, if_neg (by omega)]
          exact hm.lf i (by omega)
        · have : frA (ofS t U) st = st := by unfold frA; rw [if_neg hn]
          rw [this] at hi ⊢
          exact hm.lf i hi
      · rw [is_free hx.1 hx.2 hofs.1 hofs.2, Bool.and_eq_true] at q
        exact q.1
      · unfold frA
        split
        · exact .inl (by simp only [List.length_set])
        · exact .inl rfl
    · rw [if_neg e1]
      by_cases e2 : t.1 = 2
      · rw [if_pos e2]
        refine ⟨fun i hi => ?_, fun x hx q => hm.tl x hx (by rw [is_write] at q; exact q), ?_, fun q => by cases q⟩
        · unfold wrA at hi ⊢
          by_cases hn : isA st (ofS t U) = true
          · rw [if_pos hn] at hi ⊢
            simp only at hi ⊢
            have hfl := hm.lf i hi
            rw [getD_set (is_parts hn).1]
            by_cases e : i = hP (ofS t U)
            · rw [if_pos e, ← e]
              unfold fullP at hfl ⊢
              unfold wrS
              split <;> exact hfl
            · rw [if_neg e]; exact hfl
          · rw [if_neg hn] at hi ⊢
            exact hm.lf i hi
        · unfold wrA
          split
          · exact .inl (by simp only [List.length_set])
          · exact .inl rfl
      · rw [if_neg e2]
        exact ⟨hm.lf, hm.tl, .inl rfl, fun q => by cases q⟩
/-- what the law asks -/
structure MW (s : Nat) (st' : AS) (U : List Int) (x0 : Int) (is : Bool) (mo : Nat) : Prop where
  used : cntA st' U + is.toNat = usA st'
  mi : MI s st' (if is then U ++ [x0] else U) (max mo (usA st'))
  each : is = true → ∀ k, k < hP x0 → cntP st' U k = 4096 / s
  off : is = true → hP x0 < st'.2.1.length ∧ (hO x0).toNat % s = 0 ∧ (hO x0).toNat + s ≤ 4096 ∧ (((hO x0).toNat : Nat) : Int) = hO x0
theorem many_step {s : Nat} {st st' : AS} {U : List Int} {x0 : Int} {is : Bool} {K mo : Nat} (hm : MI s st U mo) (hs : MS s st st' U x0 is) (hp : Stp1 s st st' U x0 is K) (hK : K ≤ 100000) (hu : Pu s st') (h2 : 2 ≤ s) (h4 : s ≤ 4096) : MW s st' U x0 is mo := by
  have hg : ∀ z, 0 ≤ gn.ofC st'.2.2 z ∧ gn.ofC st'.2.2 z ≤ 4294967295 := fun z => by have := hp.ti.gmax z; omega
  have hca := count_all hu hg hp.ti.unq (fun x hx => (hp.ti.told x hx).1) hs.tl
  have hcp := fun p hp2 => count_page hu hg hp.ti.unq (fun x hx => (hp.ti.told x hx).1) hs.tl (p := p) hp2
  refine ⟨?_, ⟨hs.lf, hs.tl, ?_⟩, fun e k hk => ?_, fun e => ?_⟩
  · cases is with
    | false => exact hca
    | true =>
      rw [if_pos rfl, cntA_app, (hp.new rfl).2.2] at hca
      exact hca
  · rcases hs.len with h | ⟨h, hpos⟩
    · rw [h]
      rcases hm.pg with h1 | h1
      · exact .inl h1
      · exact .inr (by have := Nat.le_max_left mo (usA st'); omega)
    · refine .inr ?_
      have h5 := sum_full st'.1 (by omega) hs.lf
      have h6 : usA st' = sumP st'.2.1 (st'.1 + 1) := by rw [us_sum, ← h]
      rw [sumP_succ (by omega), h5] at h6
      rw [List.getD_eq_getElem?_getD, List.getElem?_eq_getElem (show st'.1 < st'.2.1.length by omega)] at hpos
      have hpos' : 0 < (st'.2.1[st'.1]'(by omega)).2.1.length := hpos
      have h7 : st'.2.1.length - 1 = st'.1 := by omega
      rw [h7]
      have := Nat.le_max_right mo (usA st')
      omega
  · subst e
    have hlo := hs.low rfl
    have hl := hu.2.2.1
    have hc := hcp k (by omega)
    rw [if_pos rfl, cntP_app, decide_eq_false (show ¬ hP x0 = k by omega), Bool.and_false] at hc
    have hf : (st'.2.1.getD k newP).2.1.length = 4096 / s := of_decide_eq_true (hs.lf k (by omega))
    rw [hf] at hc
    exact hc
  · subst e
    have hpr := is_parts (hp.new rfl).2.2
    obtain ⟨o, eo, ho, hmod, _⟩ := (show Inv s _ _ _ _ _ _ from (hu.1 _ (getD_mem hpr.1)).inv).at_ (is_mem.1 hpr.2.1)
    rw [eo]
    exact ⟨hpr.1, by simpa using hmod, by simpa using ho, by simp⟩
theorem pages_le {s : Nat} {st : AS} {U : List Int} {mo : Nat} (hm : MI s st U mo) (h4 : s ≤ 4096) (h2 : 2 ≤ s) : st.2.1.length ≤ (mo + 4096 / s - 1) / (4096 / s) := by
  have h1 : 1 ≤ 4096 / s := (Nat.le_div_iff_mul_le (by omega)).2 (by omega)
  refine (Nat.le_div_iff_mul_le (by omega)).2 ?_
  rcases hm.pg with h | h
  · rw [h, Nat.zero_mul]; exact Nat.zero_le _
  · obtain ⟨n, hn⟩ : ∃ n, st.2.1.length = n := ⟨_, rfl⟩
    rw [hn] at h ⊢
    cases n with
    | zero => rw [Nat.zero_mul]; exact Nat.zero_le _
    | succ n =>
      rw [Nat.add_sub_cancel] at h
      rw [Nat.add_mul, Nat.one_mul]
      omega
end Go.Proofs.Ytbncpfkoeahhpaa
