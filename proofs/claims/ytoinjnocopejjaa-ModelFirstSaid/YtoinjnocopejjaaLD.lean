/- Of two that overlap, and wrote one key, one did not commit. -/
import Derived.Test.YtoinjnocopejjaaLC
namespace Go.Proofs.Ytoinjnocopejjaa
set_option linter.unusedVariables false
set_option linter.unusedSimpArgs false
def wrote (g : Lg) (i : Nat) (k : ByteArray) : Prop := lastW k (gl g i).ws ≠ none
structure FI (s : MS) (g : Lg) (now : Int) : Prop where
  bg : ∀ i, i < g.lives.length → 0 < (gl g i).begun ∧ (gl g i).begun ≤ now ∧ 0 ≤ (gl g i).over ∧ (gl g i).over ≤ now
  st : ∀ i, i < g.lives.length → (gl g i).over ≠ 0 → (sti s i).1 ≠ 1
  b : ∀ i j, i < g.lives.length → j < g.lives.length → i ≠ j → (gl g i).over ≠ 0 → (gl g j).begun ≤ (gl g i).over → (sti s j).1 = 1 → ∀ k, wrote g i k → clashB (getR s k).1 (gl g j).sn = true ∧ ¬ wrote g j k
  c : ∀ i j, i < g.lives.length → j < g.lives.length → i ≠ j → (gl g i).over ≠ 0 → (gl g j).over ≠ 0 → (gl g j).begun ≤ (gl g i).over → (gl g i).begun ≤ (gl g j).over → ∀ k, ¬ (wrote g i k ∧ wrote g j k)
theorem FI.new (c : Conf) (now : Int) : FI (newM c) lg0 now := ⟨fun i hi => absurd hi (Nat.not_lt_zero i), fun i hi => absurd hi (Nat.not_lt_zero i), fun i _ hi => absurd hi (Nat.not_lt_zero i), fun i _ hi => absurd hi (Nat.not_lt_zero i)⟩
theorem FI.mono {s : MS} {g : Lg} {now now' : Int} (h : FI s g now) (hn : now ≤ now') : FI s g now' := ⟨fun i hi => by have := h.bg i hi; omega, h.st, h.b, h.c⟩
section
variable {s : MS} {g : Lg} {now : Int} (hm : OkM s) (hl : LI s g) (h : FI s g now)
include hm hl h
/-- a writer's end -/
theorem FI.ended {i : Nat} (hi : i < g.lives.length) (ha : (sti s i).1 = 1) {st at_ : Int} (hat : at_ = 0 ∨ now < at_) (h0 : 0 ≤ now) (hst : st ≠ 1) {c : Int} {rows : List (ByteArray × Rw)} {t : Int} {fs : List Fc}
    (hcl : ∀ k q, q ≤ s.clock → clashB (getR s k).1 q = true → clashB (getK rw0 rows k).1 q = true) (hnew : at_ ≠ 0 → ∀ k q, q ≤ s.clock → wrote g i k → clashB (getK rw0 rows k).1 q = true) :
    FI ⟨s.cf, c, s.floor, s.txns.set i (st, (sti s i).2), s.tasks, rows⟩ ⟨t, fs, g.lives.set i { gl g i with over := at_ }⟩ (max now at_) := by
  have hlen := hl.len
  have hs : ∀ j, sti ⟨s.cf, c, s.floor, s.txns.set i (st, (sti s i).2), s.tasks, rows⟩ j = if j = i then (st, (sti s i).2) else sti s j := fun j => getD_set (by omega)
  have hg : ∀ j, gl ⟨t, fs, g.lives.set i { gl g i with over := at_ }⟩ j = if j = i then { gl g i with over := at_ } else gl g j := fun j => gl_set hi
  have hw : ∀ j k, wrote ⟨t, fs, g.lives.set i { gl g i with over := at_ }⟩ j k ↔ wrote g j k := fun j k => by
    unfold wrote; rw [hg j]
    by_cases e : j = i
    · rw [if_pos e, e]
    · rw [if_neg e]
  have hll : (g.lives.set i { gl g i with over := at_ }).length = g.lives.length := List.length_set ..
  have hov : (gl g i).over = 0 := by
    by_cases e : (gl g i).over = 0
    · exact e
    · exact absurd ha (h.st i hi e)
  have hbgi := h.bg i hi
  have hsn : ∀ j, j < g.lives.length → (gl g j).sn ≤ s.clock := fun j hj => by
    rw [hl.sn j hj]
    have h2 : sti s j = s.txns[j] := by unfold sti; rw [List.getD_eq_getElem?_getD, List.getElem?_eq_getElem (by omega)]; rfl
    rw [h2]
    exact (hm.sn _ (List.getElem_mem _)).2.1
  have hex : ∀ j, j < g.lives.length → j ≠ i → (sti s j).1 = 1 → ∀ k, wrote g i k → ¬ wrote g j k := fun j hj e hj1 k h1 h2 => by
    unfold wrote at h1 h2
    cases e1 : lastW k (gl g i).ws with
    | none => exact h1 e1
    | some x =>
      cases e2 : lastW k (gl g j).ws with
      | none => exact h2 e2
      | some y =>
        have a1 := hl.ws1 i hi ha k x e1
        have a2 := hl.ws1 j hj hj1 k y e2
        rw [a1] at a2
        have := congrArg Ver.w a2
        simp only at this
        omega
  refine ⟨fun j hj => ?_, fun j hj ho => ?_, fun j k hj hk hne ho hbe hk1 key hwr => ?_, fun j k hj hk hne ho ho2 hb1 hb2 key hwr => ?_⟩
  · replace hj : j < g.lives.length := by rw [← hll]; exact hj
    have := h.bg j hj
    rw [hg j]
    by_cases e : j = i
    · rw [if_pos e]; simp only; omega
    · rw [if_neg e]; omega
  · replace hj : j < g.lives.length := by rw [← hll]; exact hj
    rw [hs j]
    rw [hg j] at ho
    by_cases e : j = i
    · rw [if_pos e]; exact hst
    · rw [if_neg e] at ho ⊢; exact h.st j hj ho
  · replace hj : j < g.lives.length := by rw [← hll]; exact hj
    replace hk : k < g.lives.length := by rw [← hll]; exact hk
    rw [hw] at hwr ⊢
    rw [hs k] at hk1
    have eki : k ≠ i := fun e => by rw [if_pos e] at hk1; exact hst hk1
    rw [if_neg eki] at hk1
    rw [hg k, if_neg eki] at hbe ⊢
    rw [hg j] at ho hbe
    show clashB (getK rw0 rows key).1 _ = true ∧ _
    by_cases e : j = i
    · rw [if_pos e] at ho
      subst e
      exact ⟨hnew ho key _ (hsn k hk) hwr, hex k hk eki hk1 key hwr⟩
    · rw [if_neg e] at ho hbe
      obtain ⟨h1, h2⟩ := h.b j k hj hk hne ho hbe hk1 key hwr
      exact ⟨hcl key _ (hsn k hk) h1, h2⟩
  · replace hj : j < g.lives.length := by rw [← hll]; exact hj
    replace hk : k < g.lives.length := by rw [← hll]; exact hk
    rw [hw, hw] at hwr
    rw [hg j] at ho hb1 hb2
    rw [hg k] at ho2 hb1 hb2
    by_cases e : j = i
    · have ek : k ≠ i := fun e2 => hne (e.trans e2.symm)
      rw [if_neg ek] at ho2 hb1 hb2
      rw [if_pos e] at ho hb1 hb2
      subst e
      simp only at ho hb1 hb2
      exact (h.b k j hk hj (fun e2 => hne e2.symm) ho2 hb2 ha key hwr.2).2 hwr.1
    · rw [if_neg e] at ho hb1 hb2
      by_cases ek : k = i
      · rw [if_pos ek] at ho2 hb1 hb2
        subst ek
        simp only at ho2 hb1 hb2
        exact (h.b j k hj hk hne ho hb1 ha key hwr.1).2 hwr.2
      · rw [if_neg ek] at ho2 hb1 hb2
        exact h.c j k hj hk hne ho ho2 hb1 hb2 key hwr
theorem FI.put {i : Nat} (hi : i < g.lives.length) (ha : (sti s i).1 = 1) {f : Fc} (hcl : clashM s ((i : Int) + 1) (getR s f.key) = false) : FI (putM s f.key ⟨(i : Int) + 1, 0, f.tomb, f.val⟩) (addW g i f) now := by
  have hgt := get_putM hm f.key ⟨(i : Int) + 1, 0, f.tomb, f.val⟩
  have hg : ∀ j, gl (addW g i f) j = if j = i then { gl g i with ws := (gl g i).ws ++ [f] } else gl g j := fun j => gl_set hi
  have hll : (addW g i f).lives.length = g.lives.length := List.length_set ..
  have hg1 : ∀ k, (getR (putM s f.key ⟨(i : Int) + 1, 0, f.tomb, f.val⟩) k).1 = (getR s k).1 := fun k => by
    rw [hgt]; by_cases e : k = f.key
    · rw [if_pos e, e]
    · rw [if_neg e]
  have hov : (gl g i).over = 0 := by
    by_cases e : (gl g i).over = 0
    · exact e
    · exact absurd ha (h.st i hi e)
  have hw : ∀ j k, j ≠ i → (wrote (addW g i f) j k ↔ wrote g j k) := fun j k e => by
    unfold wrote; rw [hg j, if_neg e]
  have hwi : ∀ k, wrote (addW g i f) i k → k ≠ f.key → wrote g i k := fun k h1 e => by
    unfold wrote at h1 ⊢
    rw [hg i, if_pos rfl] at h1
    simp only at h1
    rw [lastW_app, if_neg (fun e2 => e e2.symm)] at h1
    exact h1
  have hbe : ∀ j, (gl (addW g i f) j).begun = (gl g j).begun ∧ (gl (addW g i f) j).over = (gl g j).over ∧ (gl (addW g i f) j).sn = (gl g j).sn := fun j => by
    rw [hg j]; by_cases e : j = i
    · rw [if_pos e, e]; exact ⟨rfl, rfl, rfl⟩
    · rw [if_neg e]; exact ⟨rfl, rfl, rfl⟩
  have hsni : snW s ((i : Int) + 1) = (gl g i).sn := by rw [snW_i, hl.sn i hi]
  refine ⟨fun j hj => ?_, fun j hj ho => ?_, fun j k hj hk hne ho hb hk1 key hwr => ?_, fun j k hj hk hne ho ho2 hb1 hb2 key hwr => ?_⟩
  · rw [(hbe j).1, (hbe j).2.1]; exact h.bg j (by omega)
  · rw [(hbe j).2.1] at ho; exact h.st j (by omega) ho
  · rw [(hbe j).2.1] at ho hb
    rw [(hbe k).1] at hb
    rw [(hbe k).2.2, hg1]
    have eji : j ≠ i := fun e => ho (by rw [e]; exact hov)
    rw [hw j key eji] at hwr
    obtain ⟨h1, h2⟩ := h.b j k (by omega) (by omega) hne ho hb hk1 key hwr
    refine ⟨h1, ?_⟩
    by_cases e : k = i
    · subst e
      intro h3
      by_cases e2 : key = f.key
      · subst e2
        unfold clashM at hcl
        rw [Bool.or_eq_false_iff, hsni, h1] at hcl
        cases hcl.2
      · exact h2 (hwi key h3 e2)
    · rw [hw k key e]; exact h2
  · rw [(hbe j).2.1] at ho hb1
    rw [(hbe k).2.1] at ho2 hb2
    rw [(hbe k).1] at hb1
    rw [(hbe j).1] at hb2
    have eji : j ≠ i := fun e => ho (by rw [e]; exact hov)
    have eki : k ≠ i := fun e => ho2 (by rw [e]; exact hov)
    rw [hw j key eji, hw k key eki] at hwr
    exact h.c j k (by omega) (by omega) hne ho ho2 hb1 hb2 key hwr
theorem FI.begin {t at_ : Int} (hat : now < at_) (h0 : 0 ≤ now) : FI (beginM s t) { g with lives := g.lives ++ [⟨t, (cntL t g.lives : Int) + 1, g.time, [], at_, 0⟩] } at_ := by
  have _ := hm
  have hln := hl.len
  have hg : ∀ j, j < g.lives.length + 1 → gl { g with lives := g.lives ++ [⟨t, (cntL t g.lives : Int) + 1, g.time, [], at_, 0⟩] } j = if j = g.lives.length then ⟨t, (cntL t g.lives : Int) + 1, g.time, [], at_, 0⟩ else gl g j := fun j hj => getD_app hj
  have hs : ∀ j, j < g.lives.length + 1 → sti (beginM s t) j = if j = g.lives.length then (1, s.clock) else sti s j := fun j hj => by
    show (s.txns ++ [(1, s.clock)]).getD j (0, 0) = _
    rw [hln]; exact getD_app (by omega)
  have hll : ∀ l : Lf, (g.lives ++ [l]).length = g.lives.length + 1 := fun l => by simp
  have hold : ∀ j, j < g.lives.length + 1 → (gl { g with lives := g.lives ++ [⟨t, (cntL t g.lives : Int) + 1, g.time, [], at_, 0⟩] } j).over ≠ 0 → j < g.lives.length := fun j hj ho => by
    rw [hg j hj] at ho
    by_cases e : j = g.lives.length
    · rw [if_pos e] at ho; exact absurd rfl ho
    · omega
  refine ⟨fun j hj => ?_, fun j hj ho => ?_, fun j k hj hk hne ho hb hk1 key hwr => ?_, fun j k hj hk hne ho ho2 hb1 hb2 key hwr => ?_⟩
  · have hj : j < g.lives.length + 1 := by rw [← hll]; exact hj
    rw [hg j hj]
    by_cases e : j = g.lives.length
    · rw [if_pos e]; simp only; omega
    · rw [if_neg e]; have := h.bg j (by omega); omega
  · have hj : j < g.lives.length + 1 := by rw [← hll]; exact hj
    have hj2 := hold j hj ho
    rw [hg j hj, if_neg (by omega)] at ho
    rw [hs j hj, if_neg (by omega)]
    exact h.st j hj2 ho
  · have hj : j < g.lives.length + 1 := by rw [← hll]; exact hj
    have hk : k < g.lives.length + 1 := by rw [← hll]; exact hk
    have hj2 := hold j hj ho
    unfold wrote at hwr ⊢
    rw [hg j hj, if_neg (by omega)] at ho hb hwr
    rw [hg k hk] at hb ⊢
    have hbj := h.bg j hj2
    by_cases e : k = g.lives.length
    · rw [if_pos e] at hb; simp only at hb; omega
    · rw [if_neg e] at hb ⊢
      rw [hs k hk, if_neg e] at hk1
      exact h.b j k hj2 (by omega) hne ho hb hk1 key hwr
  · have hj : j < g.lives.length + 1 := by rw [← hll]; exact hj
    have hk : k < g.lives.length + 1 := by rw [← hll]; exact hk
    have hj2 := hold j hj ho
    have hk2 := hold k hk ho2
    unfold wrote at hwr
    rw [hg j hj, if_neg (by omega)] at ho hb1 hb2 hwr
    rw [hg k hk, if_neg (by omega)] at ho2 hb1 hb2 hwr
    exact h.c j k hj2 hk2 hne ho ho2 hb1 hb2 key hwr
theorem FI.vac : FI (vacM s) g now := by
  have hgr : ∀ k, getR (vacM s) k = keptR (floorM s) (getR s k) := hm.g_kept (floorM s)
  refine ⟨h.bg, h.st, fun i j hi hj hne ho hb hj1 k hw => ?_, h.c⟩
  obtain ⟨h1, h2⟩ := h.b i j hi hj hne ho hb hj1 k hw
  refine ⟨?_, h2⟩
  rw [hgr]
  have hln := hl.len
  have h3 : sti s j = s.txns[j] := by unfold sti; rw [List.getD_eq_getElem?_getD, List.getElem?_eq_getElem (by omega)]; rfl
  have hlo := floor_lo s.txns s.clock s.txns[j] (List.getElem_mem _) (by rw [← h3]; exact hj1)
  show clashB (kept (getR s k).1 (floorM s)) _ = true
  rw [(VL.kept (getR s k).1 (floorM s)).cb _ (by rw [hl.sn j hj, h3]; exact hlo)]
  exact h1
theorem FI.do_ {at_ : Int} (hat : now < at_) (h0 : 0 ≤ now) (t : Int) (x : Cl) : FI (doM s t x).1 (noteL g at_ t x (doM s t x).2) at_ := by
  have hov : ∀ i, i < g.lives.length → (sti s i).1 = 1 → (gl g i).over = 0 := fun i hi ha => by
    by_cases e : (gl g i).over = 0
    · exact e
    · exact absurd ha (h.st i hi e)
  have hset : ∀ i, i < g.lives.length → (sti s i).1 = 1 → g.lives.set i { gl g i with over := 0 } = g.lives := fun i hi ha => by
    have e : gl g i = g.lives[i] := by unfold gl; rw [List.getD_eq_getElem?_getD, List.getElem?_eq_getElem hi]; rfl
    have e2 : ({ gl g i with over := 0 } : Lf) = g.lives[i] := by rw [← hov i hi ha, ← e]
    rw [e2]; exact List.set_getElem_self hi
  have hd1 : ∀ (i : Nat) k, (getK rw0 (mapR (dropR ((i : Int) + 1)) s.rows) k).1 = (getR s k).1 := fun i k => by
    rw [hm.g_drop (by omega)]; unfold dropR; split <;> rfl
  rcases stepC hm hl at_ t x with ⟨e1, e2⟩ | ⟨ht, _, e1, e2⟩ | ⟨i, f, hi, ha, hc, e1, e2, _⟩ | ⟨i, hi, ha, e1, e2⟩ | ⟨i, hi, ha, hne, e1, e2⟩ | ⟨i, hi, ha, hne, e1, e2⟩ | ⟨e1, e2⟩
  · rw [e1, e2]; exact h.mono (by omega)
  · rw [e1, e2]; exact h.begin hm hl hat h0
  · rw [e1, e2]; exact (h.put hm hl hi ha hc).mono (by omega)
  · rw [e1, e2]
    have := h.ended hm hl hi ha (st := 4) (at_ := 0) (c := s.clock) (t := g.time) (fs := g.facts) (rows := mapR (dropR ((i : Int) + 1)) s.rows) (.inl rfl) h0 (by decide) (fun k q _ hq => by rw [hd1]; exact hq) (fun e => absurd rfl e)
    rw [hset i hi ha] at this
    have e3 := endM_eq (s := s) (i := i) (st := 4) (c := s.clock) (f := dropR ((i : Int) + 1))
    rw [← e3] at this
    exact this.mono (by omega)
  · rw [e1, e2, endM_eq]
    have hg : ∀ k, getK rw0 (mapR (commR ((i : Int) + 1) (s.clock + 1)) s.rows) k = commR ((i : Int) + 1) (s.clock + 1) (getR s k) := hm.g_comm (by omega)
    refine (h.ended hm hl hi ha (st := 3) (at_ := at_) (c := s.clock + 1) (t := g.time + 1) (fs := g.facts ++ lastFs (g.time + 1) (gl g i).ws) (rows := mapR (commR ((i : Int) + 1) (s.clock + 1)) s.rows) (.inr hat) h0 (by decide) (fun k q hq hq2 => ?_) (fun _ k q hq hw => ?_)).mono (by omega)
    · rw [hg]; unfold commR
      split
      · rw [clashB_cons]; exact decide_eq_true (by simp only; omega)
      · exact hq2
    · rw [hg]; unfold commR
      unfold wrote at hw
      cases hx : lastW k (gl g i).ws with
      | none => exact absurd hx hw
      | some y =>
        rw [if_pos (by rw [hl.ws1 i hi ha k y hx]), clashB_cons]
        exact decide_eq_true (by simp only; omega)
  · rw [e1, e2]
    have e3 := endM_eq (s := s) (i := i) (st := 3) (c := s.clock) (f := dropR ((i : Int) + 1))
    have e4 : endM s ((i : Int) + 1) 3 (dropR ((i : Int) + 1)) = ⟨s.cf, s.clock, s.floor, s.txns.set i (3, (sti s i).2), s.tasks, mapR (dropR ((i : Int) + 1)) s.rows⟩ := e3
    rw [e4]
    refine (h.ended hm hl hi ha (st := 3) (at_ := at_) (c := s.clock) (t := g.time) (fs := g.facts) (rows := mapR (dropR ((i : Int) + 1)) s.rows) (.inr hat) h0 (by decide) (fun k q _ hq => by rw [hd1]; exact hq) (fun _ k q hq hw => ?_)).mono (by omega)
    unfold wrote at hw
    rw [hne] at hw
    exact absurd rfl hw
  · rw [e1, e2]; exact (h.vac hm hl).mono (by omega)
end
end Go.Proofs.Ytoinjnocopejjaa
