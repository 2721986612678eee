/- SA, SV, SW in one. -/
import Derived.Test.YtoinjnocopejjaaMA
/- Turns one behind the other; a task by another name. -/
namespace Go.Proofs.Ytoinjnocopejjaa
set_option linter.unusedVariables false
set_option linter.unusedSimpArgs false
abbrev Tn := Int × Cl
def stp (s : MS) (t : Tn) : MS := (doM s t.1 t.2).1
def runM (s : MS) (l : List Tn) : MS := l.foldl stp s
theorem runM_snoc (s : MS) (l : List Tn) (t : Tn) : runM s (l ++ [t]) = stp (runM s l) t := by unfold runM; rw [List.foldl_append]; rfl
theorem runM_take (s : MS) (l : List Tn) (k : Nat) (t : Tn) (h : l[k]? = some t) : runM s (l.take (k + 1)) = stp (runM s (l.take k)) t := by
  rw [List.take_add_one, h]; exact runM_snoc _ _ _
theorem runM_ok : ∀ (l : List Tn) (s : MS), OkM s → OkM (runM s l)
  | [], _, h => h
  | t :: l, s, h => runM_ok l (stp s t) (h.do_ t.1 t.2)
theorem runM_txns : ∀ (l : List Tn) (s : MS), (runM s l).txns.length ≤ s.txns.length + l.length
  | [], _ => Nat.le_refl _
  | t :: l, s => by
    have h1 := runM_txns l (stp s t)
    have h2 := doM_txns s t.1 t.2
    show (runM (stp s t) l).txns.length ≤ _
    unfold stp at h1 ⊢
    rw [List.length_cons]; omega
theorem runM_cf : ∀ (l : List Tn) (s : MS), (runM s l).cf = s.cf
  | [], _ => rfl
  | t :: l, s => (runM_cf l (stp s t)).trans (doM_cf s t.1 t.2)
theorem runM_tx (c : Conf) (l : List Tn) (k : Nat) (hl : l.length ≤ 1000) : (runM (newM c) (l.take k)).txns.length ≤ 1000 := by
  have h := runM_txns (l.take k) (newM c)
  have h2 : (l.take k).length ≤ l.length := by rw [List.length_take]; omega
  have h3 : (newM c).txns.length = 0 := rfl
  omega
/-- what is answered by an error, but by Exhausted, changes nothing -/
theorem err_same (s : MS) (t : Int) (x : Cl) (h : (doM s t x).2.1 ≠ 0) (h5 : (doM s t x).2.1 ≠ 35) : (doM s t x).1 = s := by
  unfold doM at h h5 ⊢
  split at h
  · rename_i e; rw [if_pos e]
  · rename_i e
    rw [if_neg e] at h5 ⊢
    unfold actM at h h5 ⊢
    split at h
    · split at h
      · rename_i e2; rw [if_pos e2]
      · exact absurd rfl h
    · rfl
    · split at h
      · rename_i e2; rw [if_pos e2]
      · rename_i e2
        rw [if_neg e2] at h5 ⊢
        split at h
        · rename_i e3; rw [if_pos e3]
        · exact absurd rfl h
    · split at h
      · rename_i e2; rw [if_pos e2]
      · rename_i e2
        rw [if_neg e2] at h5 ⊢
        split at h
        · rename_i e3; rw [if_pos e3]
        · rename_i e3
          rw [if_neg e3] at h5 ⊢
          split at h
          · rename_i e4; rw [if_pos e4]
          · exact absurd rfl h
    · rfl
    · split at h
      · rename_i hk e2; simp only [hk] at h5; rw [if_pos e2] at h5; exact absurd rfl h5
      · split at h
        · exact absurd rfl h
        · exact absurd rfl h
    · exact absurd rfl h
    · exact absurd rfl h
    · rfl
theorem mig_same (s : MS) (t : Int) (x : Cl) (h : x.1 = 9) : (doM s t x).1 = s := by
  unfold doM
  split
  · rfl
  · obtain ⟨k, x⟩ := x
    simp only at h
    subst h
    rfl
/-- a task by another name -/
structure RnM (d : Nat) (s s' : MS) : Prop where
  cf : s'.cf = s.cf
  clock : s'.clock = s.clock
  floor : s'.floor = s.floor
  txns : s'.txns = s.txns
  rows : s'.rows = s.rows
  len : s'.tasks.length = s.tasks.length
  num : ∀ i, i < s.tasks.length → s'.tasks.getD ((i + d) % s.tasks.length) [] = s.tasks.getD i []
def othT (d : Nat) (T : Nat) (t : Int) : Int := if 0 ≤ t ∧ t < T then (((t.toNat + d) % T : Nat) : Int) else t
theorem oth_in {d T : Nat} {t : Int} (h : 0 ≤ t ∧ t < T) : 0 ≤ othT d T t ∧ othT d T t < T ∧ (othT d T t).toNat = (t.toNat + d) % T := by
  unfold othT; rw [if_pos h]
  have := Nat.mod_lt (t.toNat + d) (show 0 < T by omega)
  omega
theorem oth_out {d T : Nat} {t : Int} (h : ¬ (0 ≤ t ∧ t < T)) : othT d T t = t := by unfold othT; rw [if_neg h]
section
variable {d : Nat} {s s' : MS} (h : RnM d s s')
include h
theorem RnM.tx (t n : Int) (ht : 0 ≤ t ∧ t < s.tasks.length) : txW s' (othT d s.tasks.length t) n = txW s t n := by
  obtain ⟨h1, h2, h3⟩ := oth_in (d := d) ht
  have e := h.num t.toNat (by omega)
  unfold txW
  rw [h3, h.len, e]
  have a1 : ¬ (othT d s.tasks.length t < 0) := by omega
  have a2 : ¬ ((s.tasks.length : Int) ≤ othT d s.tasks.length t) := by omega
  have a3 : ¬ (t < 0) := by omega
  have a4 : ¬ ((s.tasks.length : Int) ≤ t) := by omega
  simp only [a1, a2, a3, a4, false_or]
theorem RnM.st (w : Int) : stW s' w = stW s w := by unfold stW; rw [h.txns]
theorem RnM.sn (w : Int) : snW s' w = snW s w := by unfold snW; rw [h.txns]
theorem RnM.ref (t : Int) (x : Cl) : refM s' (othT d s.tasks.length t) x = refM s t x := by
  by_cases ht : 0 ≤ t ∧ t < s.tasks.length
  · obtain ⟨h1, h2, h3⟩ := oth_in (d := d) ht
    unfold refM
    rw [h.tx t x.2.1 ht, h.st, h.len, h.cf]
    have a1 : ¬ (othT d s.tasks.length t < 0) := by omega
    have a2 : ¬ ((s.tasks.length : Int) ≤ othT d s.tasks.length t) := by omega
    have a3 : ¬ (t < 0) := by omega
    have a4 : ¬ ((s.tasks.length : Int) ≤ t) := by omega
    simp only [a1, a2, a3, a4, false_or]
  · rw [oth_out ht]
    unfold refM
    rw [h.len, if_pos (by omega), if_pos (by omega)]
theorem RnM.get (k : ByteArray) : getR s' k = getR s k := by unfold getR; rw [h.rows]
theorem RnM.rB (w : Int) (r : Rw) : readB s' w r = readB s w r := by unfold readB; rw [h.sn]
theorem RnM.rV (w : Int) (r : Rw) : readV s' w r = readV s w r := by unfold readV; rw [h.sn]
theorem RnM.cl (w : Int) (r : Rw) : clashM s' w r = clashM s w r := by unfold clashM; rw [h.sn]
theorem RnM.full (k : ByteArray) : fullM s' k = fullM s k := by unfold fullM; rw [h.get, h.rows, h.cf]
theorem RnM.scan (w : Int) (a b : ByteArray) (lim : Int) : ∀ (rows : List (ByteArray × Rw)) (acc : List Pr), scanP s' w a b lim rows acc = scanP s w a b lim rows acc
  | [], _ => rfl
  | p :: r, acc => by
    unfold scanP
    rw [h.rB, h.rV, RnM.scan w a b lim r, RnM.scan w a b lim r]
theorem RnM.rowsTo {rows : List (ByteArray × Rw)} {c f : Int} {tx : List (Int × Int)} : RnM d ⟨s.cf, c, f, tx, s.tasks, rows⟩ ⟨s'.cf, c, f, tx, s'.tasks, rows⟩ := ⟨h.cf, rfl, rfl, rfl, rfl, h.len, h.num⟩
theorem RnM.rowsC {rows : List (ByteArray × Rw)} {cf : Conf} {c f : Int} {tx : List (Int × Int)} : RnM d ⟨cf, c, f, tx, s.tasks, rows⟩ ⟨cf, c, f, tx, s'.tasks, rows⟩ := ⟨rfl, rfl, rfl, rfl, rfl, h.len, h.num⟩
theorem RnM.begin {t : Int} (ht : 0 ≤ t ∧ t < s.tasks.length) : RnM d (beginM s t) (beginM s' (othT d s.tasks.length t)) := by
  obtain ⟨h1, h2, h3⟩ := oth_in (d := d) ht
  have e := h.num t.toNat (by omega)
  refine ⟨h.cf, h.clock, h.floor, ?_, h.rows, ?_, fun i hi => ?_⟩
  · show s'.txns ++ [(1, s'.clock)] = s.txns ++ [(1, s.clock)]
    rw [h.txns, h.clock]
  · show (s'.tasks.set _ _).length = (s.tasks.set _ _).length
    rw [List.length_set, List.length_set, h.len]
  · have hi : i < s.tasks.length := by
      have : i < (s.tasks.set t.toNat _).length := hi
      rwa [List.length_set] at this
    have hT : 0 < s.tasks.length := by omega
    show (s'.tasks.set (othT d s.tasks.length t).toNat (s'.tasks.getD (othT d s.tasks.length t).toNat [] ++ [((s'.txns.length + 1 : Nat) : Int)])).getD ((i + d) % (s.tasks.set t.toNat (s.tasks.getD t.toNat [] ++ [((s.txns.length + 1 : Nat) : Int)])).length) [] = (s.tasks.set t.toNat (s.tasks.getD t.toNat [] ++ [((s.txns.length + 1 : Nat) : Int)])).getD i []
    rw [h3, e, h.txns, List.length_set]
    have hm := Nat.mod_lt (i + d) hT
    simp only [List.getD_eq_getElem?_getD, List.getElem?_set] at e ⊢
    have hn := h.num i hi
    simp only [List.getD_eq_getElem?_getD] at hn
    have hinj : (t.toNat + d) % s.tasks.length = (i + d) % s.tasks.length → t.toNat = i := fun hh => by
      have h5 : t.toNat < s.tasks.length := by omega
      have h6 := Nat.sub_mod_eq_zero_of_mod_eq hh
      have h7 := Nat.sub_mod_eq_zero_of_mod_eq hh.symm
      rw [Nat.mod_eq_of_lt (by omega)] at h6 h7
      omega
    by_cases ei : t.toNat = i
    · subst ei
      rw [if_pos rfl, if_pos rfl, h.len, if_pos hm, if_pos (by omega)]
    · rw [if_neg (fun hh => ei (hinj hh)), if_neg ei]
      exact hn
theorem RnM.do_ (t : Int) (x : Cl) : RnM d (doM s t x).1 (doM s' (othT d s.tasks.length t) x).1 ∧ (doM s' (othT d s.tasks.length t) x).2 = (doM s t x).2 := by
  unfold doM
  rw [h.ref]
  split
  · exact ⟨h, rfl⟩
  · rename_i hr
    have ht := (refM_0 (show refM s t x = 0 by omega)).1
    rw [h.tx t _ ht]
    generalize txW s t x.2.1 = w
    unfold actM
    split
    · rw [h.txns, h.cf]
      split
      · exact ⟨h, rfl⟩
      · exact ⟨h.begin ht, rfl⟩
    · rw [h.rB, h.rV, h.get]; exact ⟨h, rfl⟩
    · rw [h.cl, h.get, h.full]
      split
      · exact ⟨h, rfl⟩
      split
      · exact ⟨h, rfl⟩
      · refine ⟨?_, rfl⟩
        unfold putM
        rw [h.rows, h.get, h.clock, h.floor, h.txns]
        first | exact h.rowsTo | exact h.rowsC
    · rw [h.cl, h.get, h.full, h.rB]
      split
      · exact ⟨h, rfl⟩
      split
      · exact ⟨h, rfl⟩
      split
      · exact ⟨h, rfl⟩
      · refine ⟨?_, rfl⟩
        unfold putM
        rw [h.rows, h.get, h.clock, h.floor, h.txns]
        first | exact h.rowsTo | exact h.rowsC
    · rw [h.scan, h.rows]; exact ⟨h, rfl⟩
    · have ea : anyI s' w = anyI s w := by unfold anyI; rw [h.rows]
      rw [ea, h.cf, h.clock]
      split
      · refine ⟨?_, rfl⟩
        unfold endM
        rw [h.rows, h.txns, h.sn, h.clock, h.floor]
        first | exact h.rowsTo | exact h.rowsC
      split
      · refine ⟨?_, rfl⟩
        unfold endM snW
        simp only
        rw [h.rows, h.txns, h.floor]
        first | exact h.rowsTo | exact h.rowsC
      · refine ⟨?_, rfl⟩
        unfold endM
        rw [h.rows, h.txns, h.sn, h.clock, h.floor]
        first | exact h.rowsTo | exact h.rowsC
    · refine ⟨?_, rfl⟩
      unfold endM
      rw [h.rows, h.txns, h.sn, h.clock, h.floor]
      first | exact h.rowsTo | exact h.rowsC
    · refine ⟨?_, rfl⟩
      have ef : floorM s' = floorM s := by unfold floorM; rw [h.txns, h.clock]
      unfold vacM
      rw [ef, h.rows, h.txns, h.clock]
      first | exact h.rowsTo | exact h.rowsC
    · exact ⟨h, rfl⟩
end
theorem RnM.new (d : Nat) (c : Conf) : RnM d (newM c) (newM c) := by
  refine ⟨rfl, rfl, rfl, rfl, rfl, rfl, fun i hi => ?_⟩
  have hi : i < c.ta.toNat := by
    have : i < (List.replicate c.ta.toNat ([] : List Int)).length := hi
    rwa [List.length_replicate] at this
  show (List.replicate c.ta.toNat ([] : List Int)).getD _ [] = (List.replicate c.ta.toNat ([] : List Int)).getD i []
  have e : ∀ j, (List.replicate c.ta.toNat ([] : List Int)).getD j [] = [] := fun j => by
    rw [List.getD_eq_getElem?_getD]
    cases hj : (List.replicate c.ta.toNat ([] : List Int))[j]? with
    | none => rfl
    | some y => exact List.eq_of_mem_replicate (List.mem_of_getElem? hj)
  rw [e, e]
end Go.Proofs.Ytoinjnocopejjaa

/- What a Vacuum leaves out is not missed. -/
namespace Go.Proofs.Ytoinjnocopejjaa
set_option linter.unusedVariables false
set_option linter.unusedSimpArgs false
theorem upto_cons (v : Ver) (l : List Ver) (q : Int) : upto (v :: l) q = if q < v.ts then upto l q + 1 else 0 := by
  show (if v.ts ≤ q then 0 else upto l q + 1) = _
  by_cases h : q < v.ts
  · rw [if_pos h, if_neg (by omega)]
  · rw [if_neg h, if_pos (by omega)]
theorem seenB_cons (v : Ver) (l : List Ver) (q : Int) : seenB (v :: l) q = if q < v.ts then seenB l q else !v.tomb := by
  unfold seenB
  rw [upto_cons]
  split
  · rw [List.length_cons, List.getD_cons_succ]
    congr 1
    exact decide_eq_decide.2 (by omega)
  · rw [List.length_cons, List.getD_cons_zero, decide_eq_true (by omega)]; rfl
theorem seen_cons (v : Ver) (l : List Ver) (q : Int) : seen (v :: l) q = if q < v.ts then seen l q else if v.tomb = true then ver0 else v := by
  unfold seen
  rw [seenB_cons, upto_cons]
  by_cases h : q < v.ts
  · rw [if_pos h, if_pos h, if_pos h, List.getD_cons_succ]
  · rw [if_neg h, if_neg h, if_neg h, List.getD_cons_zero]
    cases v.tomb <;> rfl
theorem clashB_cons (v : Ver) (l : List Ver) (q : Int) : clashB (v :: l) q = decide (q < v.ts) := by
  unfold clashB
  rw [List.length_cons, List.getD_cons_zero]
  exact decide_eq_decide.2 (by omega)
/-- versions of which some are left out -/
structure VL (f : Int) (m n : List Ver) : Prop where
  len : n.length ≤ m.length
  sb : ∀ q, f ≤ q → seenB n q = seenB m q
  sv : ∀ q, f ≤ q → seen n q = seen m q
  cb : ∀ q, f ≤ q → clashB n q = clashB m q
theorem VL.refl (f : Int) (l : List Ver) : VL f l l := ⟨Nat.le_refl _, fun _ _ => rfl, fun _ _ => rfl, fun _ _ => rfl⟩
theorem VL.mono {f f' : Int} {m n : List Ver} (h : VL f m n) (hf : f ≤ f') : VL f' m n := ⟨h.len, fun q hq => h.sb q (by omega), fun q hq => h.sv q (by omega), fun q hq => h.cb q (by omega)⟩
theorem VL.trans {f : Int} {m n o : List Ver} (h : VL f m n) (k : VL f n o) : VL f m o := ⟨Nat.le_trans k.len h.len, fun q hq => (k.sb q hq).trans (h.sb q hq), fun q hq => (k.sv q hq).trans (h.sv q hq), fun q hq => (k.cb q hq).trans (h.cb q hq)⟩
theorem VL.cons {f : Int} {m n : List Ver} (h : VL f m n) (v : Ver) : VL f (v :: m) (v :: n) :=
  ⟨by rw [List.length_cons, List.length_cons]; have := h.len; omega, fun q hq => by rw [seenB_cons, seenB_cons, h.sb q hq], fun q hq => by rw [seen_cons, seen_cons, h.sv q hq], fun q hq => by rw [clashB_cons, clashB_cons]⟩
theorem upto_take (l : List Ver) (q : Int) : ∀ n, upto (l.take n) q = if upto l q < n then upto l q else (l.take n).length := by
  induction l with
  | nil => intro n; rw [List.take_nil]; split <;> rfl
  | cons v l ih =>
    intro n
    cases n with
    | zero => rw [List.take_zero, if_neg (by omega)]; rfl
    | succ n =>
      rw [List.take_succ_cons, upto_cons, upto_cons, ih n]
      by_cases h : q < v.ts
      · rw [if_pos h, if_pos h]
        by_cases h2 : upto l q < n
        · rw [if_pos h2, if_pos (by omega)]
        · rw [if_neg h2, if_neg (by omega), List.length_cons]
      · rw [if_neg h, if_neg h, if_pos (by omega)]
theorem upto_mono : ∀ (l : List Ver) {f q : Int}, f ≤ q → upto l q ≤ upto l f
  | [], _, _, _ => Nat.le_refl _
  | v :: l, f, q, h => by
    have := upto_mono l h
    rw [upto_cons, upto_cons]
    by_cases h1 : q < v.ts
    · rw [if_pos h1, if_pos (by omega)]; omega
    · rw [if_neg h1]; omega
theorem VL.kept (l : List Ver) (f : Int) : VL f l (kept l f) := by
  have hn := nkept_le l f
  have hsb : ∀ q, f ≤ q → seenB (Go.Proofs.Ytoinjnocopejjaa.kept l f) q = seenB l q ∧ (seenB l q = true → upto (Go.Proofs.Ytoinjnocopejjaa.kept l f) q = upto l q ∧ upto l q < nkept l f) := fun q hq => by
    have h1 := upto_mono l hq
    have hu := upto_le l q
    unfold Go.Proofs.Ytoinjnocopejjaa.kept
    have e := upto_take l q (nkept l f)
    by_cases h2 : upto l q < nkept l f
    · rw [if_pos h2] at e
      refine ⟨?_, fun _ => ⟨e, h2⟩⟩
      unfold seenB
      rw [e, List.length_take]
      have e3 : (l.take (nkept l f)).getD (upto l q) ver0 = l.getD (upto l q) ver0 := by
        simp only [List.getD_eq_getElem?_getD, List.getElem?_take, if_pos h2]
      rw [e3]
      congr 1
      exact decide_eq_decide.2 (by omega)
    · rw [if_neg h2] at e
      have hf : seenB l q = false := by
        unfold nkept at h2
        unfold seenB
        split at h2
        · omega
        · rename_i h3
          have e4 : upto l q = upto l f := by omega
          rw [e4]
          by_cases h5 : upto l f < l.length
          · rw [decide_eq_true h5]
            have : (l.getD (upto l f) ver0).tomb = true := by
              cases hb : (l.getD (upto l f) ver0).tomb with
              | true => rfl
              | false => exact absurd ⟨h5, hb⟩ h3
            rw [this]; rfl
          · rw [decide_eq_false h5]; rfl
      refine ⟨?_, fun h => by rw [hf] at h; cases h⟩
      rw [hf]
      unfold seenB
      rw [e, decide_eq_false (by omega)]; rfl
  refine ⟨by unfold Go.Proofs.Ytoinjnocopejjaa.kept; rw [List.length_take]; omega, fun q hq => (hsb q hq).1, fun q hq => ?_, fun q hq => ?_⟩
  · obtain ⟨h1, h2⟩ := hsb q hq
    unfold seen
    rw [h1]
    split
    · rename_i h3
      obtain ⟨h4, h5⟩ := h2 h3
      rw [h4]
      unfold Go.Proofs.Ytoinjnocopejjaa.kept
      simp only [List.getD_eq_getElem?_getD, List.getElem?_take, if_pos h5]
    · rfl
  · unfold clashB Go.Proofs.Ytoinjnocopejjaa.kept
    cases l with
    | nil => rw [List.take_nil]
    | cons v l =>
      rw [List.length_take]
      refine decide_eq_decide.2 ?_
      cases hk : nkept (v :: l) f with
      | zero =>
        have hu : upto (v :: l) f = 0 := by
          unfold nkept at hk
          split at hk <;> omega
        rw [upto_cons] at hu
        split at hu
        · omega
        · rw [List.length_cons, List.getD_cons_zero]; omega
      | succ j => rw [List.take_succ_cons, List.getD_cons_zero, List.getD_cons_zero, List.length_cons]; omega
theorem zero_row {r : Rw} (hw : 0 ≤ r.2.w) (h0 : r.2.w = 0 → r.2 = ver0) (h : retR r = 0) : r = rw0 := by
  unfold retR at h
  split at h
  · omega
  · obtain ⟨l, v⟩ := r
    simp only at *
    rw [h0 (by omega)]
    rw [List.length_eq_zero_iff] at h
    rw [h]; rfl
theorem get_mapR {f : Rw → Rw} {rows : List (ByteArray × Rw)} (hu : Up rows) (hz : ∀ p ∈ rows, retR (f p.2) = 0 → f p.2 = rw0) (h0 : f rw0 = rw0) (k : ByteArray) : getK rw0 (mapR f rows) k = f (getK rw0 rows k) := by
  cases e : hasK rows k with
  | false =>
    rw [get_none e, h0]
    refine get_none ?_
    cases e2 : hasK (mapR f rows) k with
    | false => rfl
    | true =>
      obtain ⟨a, ha⟩ := has_iff.1 e2
      obtain ⟨r, hr, _⟩ := mem_mapR.1 ha
      rw [has_iff.2 ⟨r, hr⟩] at e; cases e
  | true =>
    have hm := get_mem (d := rw0) e
    by_cases hr : retR (f (getK rw0 rows k)) = 0
    · rw [hz _ hm hr]
      refine get_none ?_
      cases e2 : hasK (mapR f rows) k with
      | false => rfl
      | true =>
        obtain ⟨a, ha⟩ := has_iff.1 e2
        obtain ⟨r, hr1, hr2, hr3⟩ := mem_mapR.1 ha
        have : r = getK rw0 rows k := (get_of_mem (d := rw0) hu hr1).symm
        simp only at hr2 hr3
        rw [hr2, this] at hr3
        exact absurd hr hr3
    · exact get_of_mem (d := rw0) (up_mapR hu) (p := (k, f (getK rw0 rows k))) (mem_mapR.2 ⟨_, hm, rfl, hr⟩)
section
variable {s : MS} (h : OkM s)
include h
theorem OkM.zero {p : ByteArray × Rw} (hp : p ∈ s.rows) {r : Rw} (h2 : r.2 = p.2.2 ∨ r.2 = ver0) (hr : retR r = 0) : r = rw0 := by
  have hi := h.iw p hp
  rcases h2 with e | e
  · exact zero_row (by rw [e]; exact hi.1) (by rw [e]; exact hi.2.2.1) hr
  · exact zero_row (by rw [e]; exact Int.le_refl _) (fun _ => e) hr
theorem OkM.g_drop {w : Int} (hw : 1 ≤ w) (k : ByteArray) : getK rw0 (mapR (dropR w) s.rows) k = dropR w (getR s k) := by
  refine get_mapR h.up (fun p hp hr => h.zero hp ?_ hr) ?_ k
  · unfold dropR; split
    · exact .inr rfl
    · exact .inl rfl
  · unfold dropR; rw [if_neg (by show ¬ (0 : Int) = w; omega)]
theorem OkM.g_comm {w t : Int} (hw : 1 ≤ w) (k : ByteArray) : getK rw0 (mapR (commR w t) s.rows) k = commR w t (getR s k) := by
  refine get_mapR h.up (fun p hp hr => h.zero hp ?_ hr) ?_ k
  · unfold commR; split
    · exact .inr rfl
    · exact .inl rfl
  · unfold commR; rw [if_neg (by show ¬ (0 : Int) = w; omega)]
theorem OkM.g_kept (f : Int) (k : ByteArray) : getK rw0 (mapR (keptR f) s.rows) k = keptR f (getR s k) :=
  get_mapR h.up (fun p hp hr => h.zero hp (.inl rfl) hr) rfl k
theorem OkM.has_ret (k : ByteArray) : hasK s.rows k = true ↔ retR (getR s k) ≠ 0 := by
  unfold getR
  constructor
  · intro e; exact h.ret _ (get_mem (d := rw0) e)
  · intro e
    cases e2 : hasK s.rows k with
    | true => rfl
    | false => rw [get_none e2] at e; exact absurd rfl e
end
def sumK (g : Rw → Nat) (l : List (ByteArray × Rw)) : Nat := (l.map fun p => g p.2).sum
theorem del_same {l : List (ByteArray × Rw)} {k : ByteArray} (h : ∀ p ∈ l, p.1 ≠ k) : delK l k = l := by
  unfold delK; exact List.filter_eq_self.2 (fun p hp => decide_eq_true (h p hp))
theorem sum_del (g : Rw → Nat) : ∀ {l : List (ByteArray × Rw)}, Up l → ∀ {k : ByteArray}, hasK l k = true → sumK g l = g (getK rw0 l k) + sumK g (delK l k)
  | [], _, k, h => by cases h
  | p :: l, hu, k, h => by
    obtain ⟨h1, h2⟩ := List.pairwise_cons.1 hu
    by_cases e : p.1 = k
    · have hd : delK (p :: l) k = l := by
        show (p :: l).filter _ = l
        rw [List.filter_cons, if_neg (by simpa using e)]
        exact del_same (fun q hq => by rw [← e]; exact fun e2 => kB_ne (h1 q hq) e2.symm)
      have hg : getK rw0 (p :: l) k = p.2 := by rw [← e]; exact get_of_mem hu (List.mem_cons_self ..)
      rw [hd, hg]; rfl
    · have hd : delK (p :: l) k = p :: delK l k := by
        show (p :: l).filter _ = _
        rw [List.filter_cons, if_pos (by simpa using e)]; rfl
      have hk : hasK l k = true := by
        unfold hasK at h ⊢
        rw [List.any_cons, Bool.or_eq_true] at h
        rcases h with h | h
        · exact absurd (of_decide_eq_true h) e
        · exact h
      have hg : getK rw0 (p :: l) k = getK rw0 l k := get_of_mem (p := (k, getK rw0 l k)) hu (List.mem_cons_of_mem _ (get_mem hk))
      have := sum_del g h2 hk
      rw [hd, hg]
      show g p.2 + sumK g l = _ + (g p.2 + sumK g (delK l k))
      omega
theorem sum_le (g : Rw → Nat) : ∀ {n m : List (ByteArray × Rw)}, Up n → Up m → (∀ k, hasK n k = true → hasK m k = true ∧ g (getK rw0 n k) ≤ g (getK rw0 m k)) → sumK g n ≤ sumK g m
  | [], _, _, _, _ => Nat.zero_le _
  | p :: n, m, hn, hm, h => by
    obtain ⟨h1, h2⟩ := List.pairwise_cons.1 hn
    obtain ⟨h3, h4⟩ := h p.1 (has_iff.2 ⟨p.2, List.mem_cons_self ..⟩)
    have hg : getK rw0 (p :: n) p.1 = p.2 := get_of_mem hn (List.mem_cons_self ..)
    rw [hg] at h4
    have := sum_le g h2 (hm.del p.1) (fun k hk => by
      have hm1 := get_mem (d := rw0) hk
      have hne : k ≠ p.1 := fun e => kB_ne (h1 _ hm1) e.symm
      obtain ⟨h5, h6⟩ := h k (has_iff.2 ⟨_, List.mem_cons_of_mem _ hm1⟩)
      have hg2 : getK rw0 (p :: n) k = getK rw0 n k := get_of_mem (p := (k, getK rw0 n k)) hn (List.mem_cons_of_mem _ hm1)
      rw [hg2] at h6
      rw [has_del, get_del hm, if_neg hne, h5, decide_eq_true hne]
      exact ⟨rfl, h6⟩)
    rw [sum_del g hm h3]
    show g p.2 + sumK g n ≤ _
    omega
theorem sum_len (l : List (ByteArray × Rw)) : sumK (fun _ => 1) l = l.length := by
  induction l with
  | nil => rfl
  | cons p l ih => show 1 + sumK (fun _ => 1) l = _; rw [ih, List.length_cons]; omega
/-- what a Scan finds, without a limit -/
def scanF (s : MS) (w : Int) (lo hi : ByteArray) (rows : List (ByteArray × Rw)) : List Pr := (rows.filter fun p => wi p.1 lo hi && readB s w p.2).map fun p => (p.1, (readV s w p.2).val)
theorem scanP_eq (s : MS) (w : Int) (lo hi : ByteArray) {lim : Int} (h0 : 0 ≤ lim) : ∀ (rows : List (ByteArray × Rw)) (a : List Pr), (a.length : Int) ≤ lim → scanP s w lo hi lim rows a = (a ++ scanF s w lo hi rows).take lim.toNat
  | [], a, ha => by
    unfold scanP scanF
    rw [List.filter_nil, List.map_nil, List.append_nil, List.take_of_length_le (by omega)]
  | p :: r, a, ha => by
    unfold scanP
    split
    · rename_i e
      rw [List.take_append_of_le_length (by omega), List.take_of_length_le (by omega)]
    · rename_i e
      split
      · rename_i e2
        rw [scanP_eq s w lo hi h0 r _ (by rw [List.length_append, List.length_singleton]; omega)]
        unfold scanF
        rw [List.filter_cons, if_pos (by rw [e2.1, e2.2]; rfl), List.map_cons, List.append_assoc]; rfl
      · rename_i e2
        rw [scanP_eq s w lo hi h0 r a ha]
        unfold scanF
        rw [List.filter_cons, if_neg (fun e3 => e2 (by simpa using e3))]
theorem up_scanF {s : MS} {w : Int} {lo hi : ByteArray} {rows : List (ByteArray × Rw)} (hu : Up rows) : Up (scanF s w lo hi rows) := by
  unfold scanF Up
  rw [List.pairwise_map]
  exact List.Pairwise.filter _ hu
theorem mem_scanF {s : MS} (h : OkM s) {w : Int} (hw : 1 ≤ w) {lo hi : ByteArray} {p : Pr} : p ∈ scanF s w lo hi s.rows ↔ wi p.1 lo hi = true ∧ readB s w (getR s p.1) = true ∧ p.2 = (readV s w (getR s p.1)).val := by
  unfold scanF
  rw [List.mem_map]
  constructor
  · rintro ⟨q, hq, rfl⟩
    obtain ⟨h1, h2⟩ := List.mem_filter.1 hq
    rw [Bool.and_eq_true] at h2
    have e : getR s q.1 = q.2 := get_of_mem h.up h1
    simp only
    rw [e]
    exact ⟨h2.1, h2.2, rfl⟩
  · rintro ⟨h1, h2, h3⟩
    have hk : hasK s.rows p.1 = true := by
      cases e : hasK s.rows p.1 with
      | true => rfl
      | false =>
        unfold getR at h2
        rw [get_none e] at h2
        unfold readB at h2
        rw [if_neg (by show ¬ (0 : Int) = w; omega)] at h2
        cases h2
    exact ⟨(p.1, getR s p.1), List.mem_filter.2 ⟨get_mem hk, by simp only; rw [h1, h2]; rfl⟩, by simp only; rw [← h3]⟩
end Go.Proofs.Ytoinjnocopejjaa

/- With Vacuums put in: one model beside the other. -/
namespace Go.Proofs.Ytoinjnocopejjaa
set_option linter.unusedVariables false
set_option linter.unusedSimpArgs false
structure VcM (m n : MS) : Prop where
  cf : n.cf = m.cf
  clock : n.clock = m.clock
  txns : n.txns = m.txns
  tasks : n.tasks = m.tasks
  it : ∀ k, (getR n k).2 = (getR m k).2
  vl : ∀ k, VL n.floor (getR m k).1 (getR n k).1
  fl : ∀ p ∈ n.txns, p.1 = 1 → n.floor ≤ p.2
theorem VcM.refl {s : MS} (h : ∀ p ∈ s.txns, p.1 = 1 → s.floor ≤ p.2) : VcM s s := ⟨rfl, rfl, rfl, rfl, fun _ => rfl, fun _ => VL.refl _ _, h⟩
theorem VcM.new (c : Conf) : VcM (newM c) (newM c) := VcM.refl (fun _ h => by cases h)
theorem retR_le {f : Int} {r r' : Rw} (h : r'.2 = r.2) (hv : VL f r.1 r'.1) : retR r' ≤ retR r := by
  have := hv.len
  unfold retR; rw [h]; split <;> omega
section
variable {m n : MS} (h : VcM m n) (hm : OkM m) (hn : OkM n)
include h
theorem VcM.st (w : Int) : stW n w = stW m w := by unfold stW; rw [h.txns]
theorem VcM.sn (w : Int) : snW n w = snW m w := by unfold snW; rw [h.txns]
theorem VcM.tx (t x : Int) : txW n t x = txW m t x := by unfold txW; rw [h.tasks]
theorem VcM.ref (t : Int) (x : Cl) : refM n t x = refM m t x := by unfold refM; rw [h.tasks, h.tx, h.st, h.cf]
theorem VcM.low {w : Int} (hs : stW m w = 1) : n.floor ≤ snW n w := by
  unfold stW at hs
  unfold snW
  split at hs
  · omega
  · rename_i e
    rw [if_neg e, h.txns]
    rw [List.getD_eq_getElem?_getD] at hs ⊢
    cases e2 : m.txns[(w - 1).toNat]? with
    | none => rw [e2] at hs; simp at hs
    | some p =>
      rw [e2] at hs
      exact h.fl p (by rw [h.txns]; exact List.mem_of_getElem? e2) hs
theorem VcM.rB {w : Int} (hs : stW m w = 1) (k : ByteArray) : readB n w (getR n k) = readB m w (getR m k) := by
  unfold readB
  rw [h.it, (h.vl k).sb _ (h.low hs), h.sn]
theorem VcM.rV {w : Int} (hs : stW m w = 1) (k : ByteArray) : readV n w (getR n k) = readV m w (getR m k) := by
  unfold readV
  rw [h.it, (h.vl k).sv _ (h.low hs), h.sn]
theorem VcM.clash {w : Int} (hs : stW m w = 1) (k : ByteArray) : clashM n w (getR n k) = clashM m w (getR m k) := by
  unfold clashM
  rw [h.it, (h.vl k).cb _ (h.low hs), h.sn]
/-- rows turned alike -/
theorem VcM.turn {g : Rw → Rw} {c : Int} {tx : List (Int × Int)} {mf : Int} {rm rn : List (ByteArray × Rw)} (hgm : ∀ k, getK rw0 rm k = g (getR m k)) (hgn : ∀ k, getK rw0 rn k = g (getR n k))
    (hg : ∀ r r' : Rw, r'.2 = r.2 → VL n.floor r.1 r'.1 → (g r').2 = (g r).2 ∧ VL n.floor (g r).1 (g r').1) (ht : ∀ p ∈ tx, p.1 = 1 → n.floor ≤ p.2) :
    VcM ⟨m.cf, c, mf, tx, m.tasks, rm⟩ ⟨n.cf, c, n.floor, tx, n.tasks, rn⟩ := by
  refine ⟨h.cf, rfl, rfl, h.tasks, fun k => ?_, fun k => ?_, ht⟩
  · show (getK rw0 rn k).2 = (getK rw0 rm k).2
    rw [hgm, hgn]; exact (hg _ _ (h.it k) (h.vl k)).1
  · show VL n.floor (getK rw0 rm k).1 (getK rw0 rn k).1
    rw [hgm, hgn]; exact (hg _ _ (h.it k) (h.vl k)).2
theorem VcM.endTx {w st : Int} (hst : st ≠ 1) : ∀ p ∈ n.txns.set (w - 1).toNat (st, snW n w), p.1 = 1 → n.floor ≤ p.2 := fun p hp e => by
  rcases List.mem_or_eq_of_mem_set hp with h1 | rfl
  · exact h.fl p h1 e
  · exact absurd e hst
theorem VcM.vac (hn : OkM n) : VcM m (vacM n) := by
  have hlo : ∀ (l : List (Int × Int)) (x : Int), (∀ p ∈ l, p.1 = 1 → (l.foldl (fun m p => if p.1 = 1 then min m p.2 else m) x) ≤ p.2) ∧ (l.foldl (fun m p => if p.1 = 1 then min m p.2 else m) x) ≤ x := by
    intro l
    induction l with
    | nil => intro x; exact ⟨fun _ h => (by cases h), Int.le_refl _⟩
    | cons q l ih =>
      intro x
      obtain ⟨h1, h2⟩ := ih (if q.1 = 1 then min x q.2 else x)
      refine ⟨fun p hp e => ?_, ?_⟩
      · rcases List.mem_cons.1 hp with rfl | hp
        · rw [if_pos e] at h2
          show List.foldl _ (if p.1 = 1 then min x p.2 else x) l ≤ _
          rw [if_pos e]; omega
        · exact h1 p hp e
      · show List.foldl _ (if q.1 = 1 then min x q.2 else x) l ≤ _
        by_cases e : q.1 = 1
        · rw [if_pos e] at h2 ⊢; omega
        · rw [if_neg e] at h2 ⊢; omega
  have hge : n.floor ≤ floorM n := by
    have : ∀ (l : List (Int × Int)) (x : Int), n.floor ≤ x → (∀ p ∈ l, p.1 = 1 → n.floor ≤ p.2) → n.floor ≤ (l.foldl (fun m p => if p.1 = 1 then min m p.2 else m) x) := by
      intro l
      induction l with
      | nil => intro x hx _; exact hx
      | cons q l ih =>
        intro x hx hl
        refine ih _ ?_ (fun p hp => hl p (List.mem_cons_of_mem _ hp))
        have := hl q (List.mem_cons_self ..)
        show n.floor ≤ (if q.1 = 1 then min x q.2 else x)
        split
        · rename_i e; have := this e; omega
        · exact hx
    exact this _ _ hn.flo.2 h.fl
  have hg := hn.g_kept (floorM n)
  refine ⟨h.cf, h.clock, h.txns, h.tasks, fun k => ?_, fun k => ?_, fun p hp e => (hlo n.txns n.clock).1 p hp e⟩
  · show (getK rw0 (mapR (keptR (floorM n)) n.rows) k).2 = _
    rw [hg]; exact h.it k
  · show VL (floorM n) _ (getK rw0 (mapR (keptR (floorM n)) n.rows) k).1
    rw [hg]
    exact ((h.vl k).mono hge).trans (VL.kept _ _)
include hm hn
theorem VcM.has {k : ByteArray} (hk : hasK n.rows k = true) : hasK m.rows k = true := by
  rw [hm.has_ret]
  have h1 := (hn.has_ret k).1 hk
  have := retR_le (h.it k) (h.vl k)
  omega
theorem VcM.any (w : Int) (hw : 1 ≤ w) : anyI n w = anyI m w := by
  have hh : ∀ s : MS, OkM s → (anyI s w = true ↔ ∃ k, (getR s k).2.w = w) := fun s hs => by
    unfold anyI
    rw [List.any_eq_true]
    constructor
    · rintro ⟨p, hp, e⟩
      exact ⟨p.1, by unfold getR; rw [get_of_mem hs.up hp]; exact of_decide_eq_true e⟩
    · rintro ⟨k, e⟩
      cases e2 : hasK s.rows k with
      | true => exact ⟨_, get_mem (d := rw0) e2, decide_eq_true e⟩
      | false =>
        unfold getR at e
        rw [get_none e2] at e
        have : (0 : Int) = w := e
        omega
  rw [Bool.eq_iff_iff, hh n hn, hh m hm]
  exact ⟨fun ⟨k, e⟩ => ⟨k, by rw [← h.it]; exact e⟩, fun ⟨k, e⟩ => ⟨k, by rw [h.it]; exact e⟩⟩
theorem VcM.keys : n.rows.length ≤ m.rows.length := by
  rw [← sum_len, ← sum_len]
  exact sum_le _ hn.up hm.up (fun k hk => ⟨h.has hm hn hk, Nat.le_refl _⟩)
theorem VcM.ret : sumK retR n.rows ≤ sumK retR m.rows :=
  sum_le _ hn.up hm.up (fun k hk => ⟨h.has hm hn hk, retR_le (h.it k) (h.vl k)⟩)
theorem VcM.full {k : ByteArray} (hf : fullM n k = true) : fullM m k = true := by
  unfold fullM at hf ⊢
  rw [h.it, h.cf, Bool.and_eq_true] at hf
  rw [hf.1, Bool.true_and]
  have h2 := hf.2
  rw [Bool.or_eq_true, Bool.and_eq_true] at h2
  rw [Bool.or_eq_true, Bool.and_eq_true]
  have hl := (h.vl k).len
  have hk := h.keys hm hn
  rcases h2 with h2 | h2
  · have h3 := of_decide_eq_true h2.2
    left
    refine ⟨?_, decide_eq_true (by omega)⟩
    cases e : hasK m.rows k with
    | false => rfl
    | true =>
      exfalso
      have hnk : hasK n.rows k = false := by simpa using h2.1
      have h4 : n.rows.length ≤ (delK m.rows k).length := by
        rw [← sum_len, ← sum_len]
        refine sum_le _ hn.up (hm.up.del k) (fun k' hk' => ⟨?_, Nat.le_refl _⟩)
        have hne : k' ≠ k := fun e3 => by rw [e3, hnk] at hk'; cases hk'
        rw [has_del, h.has hm hn hk', decide_eq_true hne]; rfl
      have h5 := sum_del (fun _ => 1) hm.up e
      rw [sum_len, sum_len] at h5
      have := hm.keys
      omega
  · have h3 := of_decide_eq_true h2
    right
    exact decide_eq_true (by omega)
theorem VcM.scan {w : Int} (hw : 1 ≤ w) (hs : stW m w = 1) (a b : ByteArray) : scanF n w a b n.rows = scanF m w a b m.rows := by
  refine ext_up (up_scanF hn.up) (up_scanF hm.up) (fun p => ?_)
  rw [mem_scanF hn hw, mem_scanF hm hw, h.rB hs, h.rV hs]
theorem VcM.putR {k : ByteArray} {v : Ver} : VcM (putM m k v) (putM n k v) := by
  have hg : ∀ s : MS, OkM s → ∀ k', getR (putM s k v) k' = if k' = k then ((getR s k).1, v) else getR s k' := fun s hs k' => by
    unfold getR putM; simp only; rw [get_put hs.up]; rfl
  refine ⟨h.cf, h.clock, h.txns, h.tasks, fun k' => ?_, fun k' => ?_, h.fl⟩
  · rw [hg n hn, hg m hm]
    split
    · rfl
    · exact h.it k'
  · rw [hg n hn, hg m hm]
    show VL n.floor _ _
    split
    · exact h.vl k
    · exact h.vl k'
theorem VcM.do_ (t : Int) (x : Cl) (hx : x.1 ≠ 8) : (doM m t x).2.1 = 34 ∨ (VcM (doM m t x).1 (doM n t x).1 ∧ (doM n t x).2 = (doM m t x).2) := by
  unfold doM
  rw [h.ref]
  split
  · exact .inr ⟨h, rfl⟩
  rename_i hr
  obtain ⟨ht, hk, hnm, hfit, _⟩ := refM_0 (show refM m t x = 0 by omega)
  have hw : namedK x.1 = true → 1 ≤ txW m t x.2.1 ∧ stW m (txW m t x.2.1) = 1 := fun e => by
    have h1 := hnm e
    rcases hm.tx t x.2.1 with e2 | e2
    · exact absurd e2 h1.1
    · exact ⟨e2.2.2.2.2.2.1, h1.2⟩
  rw [h.tx]
  generalize txW m t x.2.1 = w at *
  unfold actM
  split
  · rw [h.txns, h.cf]
    split
    · exact .inl rfl
    · refine .inr ⟨⟨h.cf, h.clock, ?_, ?_, h.it, h.vl, fun p hp e => ?_⟩, rfl⟩
      · show n.txns ++ [(1, n.clock)] = m.txns ++ [(1, m.clock)]
        rw [h.txns, h.clock]
      · show n.tasks.set _ (n.tasks.getD _ [] ++ [((n.txns.length + 1 : Nat) : Int)]) = _
        rw [h.tasks, h.txns]; rfl
      · have hp : p ∈ n.txns ++ [((1 : Int), n.clock)] := hp
        rcases List.mem_append.1 hp with h1 | h1
        · exact h.fl p h1 e
        · rw [List.mem_singleton] at h1
          subst h1; exact hn.flo.2
  · rename_i hk2
    have hs := hw (by rw [hk2]; rfl)
    rw [h.rB hs.2, h.rV hs.2]
    exact .inr ⟨h, rfl⟩
  · rename_i hk2
    have hs := hw (by rw [hk2]; rfl)
    rw [h.clash hs.2]
    split
    · exact .inr ⟨h, rfl⟩
    by_cases e : fullM m x.2.2.1 = true
    · rw [if_pos e]; exact .inl rfl
    · rw [if_neg e, if_neg (fun e2 => e (h.full hm hn e2))]
      exact .inr ⟨h.putR hm hn, rfl⟩
  · rename_i hk2
    have hs := hw (by rw [hk2]; rfl)
    rw [h.clash hs.2, h.rB hs.2]
    split
    · exact .inr ⟨h, rfl⟩
    split
    · exact .inr ⟨h, rfl⟩
    by_cases e : fullM m x.2.2.1 = true
    · rw [if_pos e]; exact .inl rfl
    · rw [if_neg e, if_neg (fun e2 => e (h.full hm hn e2))]
      exact .inr ⟨h.putR hm hn, rfl⟩
  · rename_i hk2
    have hs := hw (by rw [hk2]; rfl)
    have h0 : 0 ≤ x.2.2.2.2.2.1 := by
      unfold fitsM at hfit
      rw [if_neg (by omega), if_neg (by omega), if_pos hk2] at hfit
      simp only [Bool.and_eq_true] at hfit
      exact of_decide_eq_true hfit.2.2.1
    rw [scanP_eq n w _ _ h0 _ _ (by simpa using h0), scanP_eq m w _ _ h0 _ _ (by simpa using h0), h.scan hm hn hs.1 hs.2]
    exact .inr ⟨h, rfl⟩
  · rename_i hk2
    have hs := hw (by rw [hk2]; rfl)
    have hdrop : ∀ r r' : Rw, r'.2 = r.2 → VL n.floor r.1 r'.1 → (dropR w r').2 = (dropR w r).2 ∧ VL n.floor (dropR w r).1 (dropR w r').1 := fun r r' e hv => by
      unfold dropR; rw [e]
      split
      · exact ⟨rfl, hv⟩
      · exact ⟨e, hv⟩
    have hcomm : ∀ (t : Int) (r r' : Rw), r'.2 = r.2 → VL n.floor r.1 r'.1 → (commR w t r').2 = (commR w t r).2 ∧ VL n.floor (commR w t r).1 (commR w t r').1 := fun t r r' e hv => by
      unfold commR; rw [e]
      split
      · exact ⟨rfl, hv.cons _⟩
      · exact ⟨e, hv⟩
    rw [h.any hm hn w hs.1, h.cf, h.clock]
    split
    · refine .inr ⟨?_, rfl⟩
      have := h.turn (g := dropR w) (c := m.clock) (mf := m.floor) (hm.g_drop hs.1) (hn.g_drop hs.1) hdrop (h.endTx (w := w) (st := 4) (by decide))
      unfold endM
      rw [← h.sn, ← h.txns, h.clock]
      exact this
    split
    · refine .inr ⟨?_, rfl⟩
      have := h.turn (g := commR w (m.clock + 1)) (c := m.clock + 1) (mf := m.floor) (hm.g_comm hs.1) (hn.g_comm hs.1) (hcomm _) (h.endTx (w := w) (st := 3) (by decide))
      rw [h.cf] at this
      have e1 : endM { n with cf := m.cf, clock := m.clock + 1 } w 3 (commR w (m.clock + 1)) = ⟨m.cf, m.clock + 1, n.floor, n.txns.set (w - 1).toNat (3, snW n w), n.tasks, mapR (commR w (m.clock + 1)) n.rows⟩ := rfl
      have e2 : endM { m with clock := m.clock + 1 } w 3 (commR w (m.clock + 1)) = ⟨m.cf, m.clock + 1, m.floor, m.txns.set (w - 1).toNat (3, snW m w), m.tasks, mapR (commR w (m.clock + 1)) m.rows⟩ := rfl
      rw [e1, e2, ← h.sn, ← h.txns]
      exact this
    · refine .inr ⟨?_, rfl⟩
      have := h.turn (g := commR w m.clock) (c := m.clock) (mf := m.floor) (hm.g_comm hs.1) (hn.g_comm hs.1) (hcomm _) (h.endTx (w := w) (st := 3) (by decide))
      unfold endM
      rw [← h.sn, ← h.txns, h.clock]
      exact this
  · rename_i hk2
    have hs := hw (by rw [hk2]; rfl)
    have hdrop : ∀ r r' : Rw, r'.2 = r.2 → VL n.floor r.1 r'.1 → (dropR w r').2 = (dropR w r).2 ∧ VL n.floor (dropR w r).1 (dropR w r').1 := fun r r' e hv => by
      unfold dropR; rw [e]
      split
      · exact ⟨rfl, hv⟩
      · exact ⟨e, hv⟩
    refine .inr ⟨?_, rfl⟩
    have := h.turn (g := dropR w) (c := m.clock) (mf := m.floor) (hm.g_drop hs.1) (hn.g_drop hs.1) hdrop (h.endTx (w := w) (st := 4) (by decide))
    unfold endM
    rw [← h.sn, ← h.txns, h.clock]
    exact this
  · rename_i hk2
    exact absurd hk2 hx
  · exact .inr ⟨h, rfl⟩
end
end Go.Proofs.Ytoinjnocopejjaa
