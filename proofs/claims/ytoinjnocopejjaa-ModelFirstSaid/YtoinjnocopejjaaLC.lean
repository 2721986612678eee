/- The log beside the model: it stays so. -/
import Derived.Test.YtoinjnocopejjaaLB
namespace Go.Proofs.Ytoinjnocopejjaa
set_option linter.unusedVariables false
set_option linter.unusedSimpArgs false
theorem getD_set {α : Type} {l : List α} {i j : Nat} {v d : α} (hi : i < l.length) : (l.set i v).getD j d = if j = i then v else l.getD j d := by
  simp only [List.getD_eq_getElem?_getD, List.getElem?_set]
  by_cases e : i = j
  · subst e; rw [if_pos rfl, if_pos rfl, if_pos hi]; rfl
  · rw [if_neg e, if_neg (fun e2 => e e2.symm)]
theorem getD_app {α : Type} {l : List α} {j : Nat} {v d : α} (hj : j < l.length + 1) : (l ++ [v]).getD j d = if j = l.length then v else l.getD j d := by
  simp only [List.getD_eq_getElem?_getD]
  by_cases e : j = l.length
  · subst e; rw [if_pos rfl]; simp
  · rw [if_neg e, List.getElem?_append_left (by omega)]
theorem floor_lo : ∀ (l : List (Int × Int)) (x : Int), ∀ p ∈ l, p.1 = 1 → (l.foldl (fun m p => if p.1 = 1 then min m p.2 else m) x) ≤ p.2
  | q :: l, x, p, hp, e => by
    have h2 := floor_le l (if q.1 = 1 then min x q.2 else x)
    rcases List.mem_cons.1 hp with rfl | hp
    · rw [if_pos e] at h2
      show List.foldl _ (if p.1 = 1 then min x p.2 else x) l ≤ _
      rw [if_pos e]; omega
    · exact floor_lo l _ p hp e
theorem floor_ge {c : Int} : ∀ (l : List (Int × Int)) (x : Int), c ≤ x → (∀ p ∈ l, p.1 = 1 → c ≤ p.2) → c ≤ (l.foldl (fun m p => if p.1 = 1 then min m p.2 else m) x)
  | [], x, hx, _ => hx
  | q :: l, x, hx, hl => by
    refine floor_ge l _ ?_ (fun p hp => hl p (List.mem_cons_of_mem _ hp))
    have := hl q (List.mem_cons_self ..)
    show c ≤ (if q.1 = 1 then min x q.2 else x)
    split
    · rename_i e; have := this e; omega
    · exact hx
theorem cntL_set (t : Int) : ∀ {l : List Lf} {i : Nat} {v : Lf}, v.task = (l.getD i lf0).task → cntL t (l.set i v) = cntL t l
  | [], _, _, _ => rfl
  | x :: l, 0, v, h => by
    have h : v.task = x.task := h
    unfold cntL
    rw [List.set_cons_zero, List.filter_cons, List.filter_cons, h]
    split <;> rfl
  | x :: l, i + 1, v, h => by
    have := @cntL_set t l i v h
    unfold cntL at this ⊢
    rw [List.set_cons_succ, List.filter_cons, List.filter_cons]
    split
    · rw [List.length_cons, List.length_cons, this]
    · exact this
theorem cntL_app (t : Int) (l : List Lf) (v : Lf) : cntL t (l ++ [v]) = cntL t l + if v.task = t then 1 else 0 := by
  unfold cntL
  rw [List.filter_append, List.length_append, List.filter_cons, List.filter_nil]
  by_cases e : v.task = t
  · rw [if_pos e, if_pos (decide_eq_true e)]; rfl
  · rw [if_neg e, if_neg (by simpa using e)]; rfl
theorem tx_begin {s : MS} {t : Int} (ht : 0 ≤ t ∧ t < s.tasks.length) (t' n : Int) : txW (beginM s t) t' n = if t' = t ∧ n = ((s.tasks.getD t.toNat []).length : Int) + 1 then (s.txns.length : Int) + 1 else txW s t' n := by
  unfold txW
  show (if t' < 0 ∨ ((s.tasks.set t.toNat (s.tasks.getD t.toNat [] ++ [((s.txns.length + 1 : Nat) : Int)])).length : Int) ≤ t' ∨ n < 1 ∨ (((s.tasks.set t.toNat (s.tasks.getD t.toNat [] ++ [((s.txns.length + 1 : Nat) : Int)])).getD t'.toNat []).length : Int) < n then 0 else ((s.tasks.set t.toNat (s.tasks.getD t.toNat [] ++ [((s.txns.length + 1 : Nat) : Int)])).getD t'.toNat []).getD (n - 1).toNat 0) = _
  rw [List.length_set, getD_set (show t.toNat < s.tasks.length by omega)]
  by_cases e : t' = t
  · subst e
    rw [if_pos rfl, List.length_append, List.length_singleton]
    by_cases e2 : n = ((s.tasks.getD t'.toNat []).length : Int) + 1
    · rw [if_pos (show t' = t' ∧ n = ((s.tasks.getD t'.toNat []).length : Int) + 1 from ⟨rfl, e2⟩), if_neg (by omega), getD_app (by omega), if_pos (by omega)]; omega
    · rw [if_neg (show ¬ (t' = t' ∧ n = ((s.tasks.getD t'.toNat []).length : Int) + 1) from fun e3 => e2 e3.2)]
      by_cases e4 : n < 1 ∨ ((s.tasks.getD t'.toNat []).length : Int) < n
      · rw [if_pos (by omega), if_pos (by omega)]
      · rw [if_neg (by omega), if_neg (by omega), getD_app (by omega), if_neg (by omega)]
  · rw [if_neg (show ¬ (t' = t ∧ n = ((s.tasks.getD t.toNat []).length : Int) + 1) from fun e3 => e e3.1)]
    by_cases e5 : t' < 0 ∨ (s.tasks.length : Int) ≤ t'
    · rw [if_pos (by omega), if_pos (by omega)]
    · rw [if_neg (show ¬ t'.toNat = t.toNat by omega)]
theorem get_putM {s : MS} (hm : OkM s) (k : ByteArray) (v : Ver) (k' : ByteArray) : getR (putM s k v) k' = if k' = k then ((getR s k).1, v) else getR s k' := by
  unfold getR putM; simp only; rw [get_put hm.up]; rfl
theorem gl_set {g : Lg} {i j : Nat} (hi : i < g.lives.length) {l : Lf} {t : Int} {fs : List Fc} : gl ⟨t, fs, g.lives.set i l⟩ j = if j = i then l else gl g j := getD_set hi
theorem endM_eq {s : MS} {i : Nat} {st c : Int} {f : Rw → Rw} : endM { s with clock := c } ((i : Int) + 1) st f = ⟨s.cf, c, s.floor, s.txns.set i (st, (sti s i).2), s.tasks, mapR f s.rows⟩ := by
  unfold endM
  have e : snW { s with clock := c } ((i : Int) + 1) = (sti s i).2 := snW_i s i
  rw [e, show ((i : Int) + 1 - 1).toNat = i from by omega]
section
variable {s : MS} {g : Lg} (h : LI s g)
include h
/-- a writer's end, but for what it wrote -/
theorem LI.ended {i : Nat} (hi : i < g.lives.length) {st : Int} (hst : st ≠ 1) {c : Int} {rows : List (ByteArray × Rw)} {l : Lf} (hl : l.task = (gl g i).task ∧ l.n = (gl g i).n ∧ l.sn = (gl g i).sn) {fs : List Fc}
    (hrow : ∀ k, ((getK rw0 rows k).2 = (getR s k).2 ∧ (getR s k).2.w ≠ (i : Int) + 1) ∨ ((getK rw0 rows k).2 = ver0 ∧ (getR s k).2.w = (i : Int) + 1))
    (hf : ∀ x ∈ fs, x.ts ≤ c)
    (hfac : ∀ k q, s.floor ≤ q → seenB (getK rw0 rows k).1 q = !(bestF k q fs).tomb ∧ (seenB (getK rw0 rows k).1 q = true → (seen (getK rw0 rows k).1 q).val = (bestF k q fs).val)) :
    LI ⟨s.cf, c, s.floor, s.txns.set i (st, (sti s i).2), s.tasks, rows⟩ ⟨c, fs, g.lives.set i l⟩ := by
  have hlen := h.len
  have hs : ∀ j, sti ⟨s.cf, c, s.floor, s.txns.set i (st, (sti s i).2), s.tasks, rows⟩ j = if j = i then (st, (sti s i).2) else sti s j := fun j => getD_set (by omega)
  have hg : ∀ j, gl ⟨c, fs, g.lives.set i l⟩ j = if j = i then l else gl g j := fun j => gl_set hi
  have hll : (g.lives.set i l).length = g.lives.length := List.length_set ..
  refine ⟨rfl, ?_, fun t n j hj => ?_, fun t h1 h2 => ?_, fun j hj => ?_, fun j hj ha k x hx => ?_, fun j hj ha k hx => ?_, hf, hfac, fun p hp e => ?_⟩
  · show (g.lives.set i l).length = (s.txns.set i _).length
    rw [List.length_set, List.length_set, hlen]
  · have hj : j < g.lives.length := by rw [← hll]; exact hj
    have := h.who t n j hj
    rw [hg j]
    by_cases e : j = i
    · rw [if_pos e, hl.1, hl.2.1, ← e]; exact this
    · rw [if_neg e]; exact this
  · rw [show cntL t (Lg.mk c fs (g.lives.set i l)).lives = cntL t (g.lives.set i l) from rfl, cntL_set t hl.1]
    exact h.cnt t h1 h2
  · have hj : j < g.lives.length := by rw [← hll]; exact hj
    have := h.sn j hj
    rw [hg j, hs j]
    by_cases e : j = i
    · rw [if_pos e, if_pos e, hl.2.2, ← e]; exact this
    · rw [if_neg e, if_neg e]; exact this
  · have hj : j < g.lives.length := by rw [← hll]; exact hj
    rw [hs j] at ha
    rw [hg j] at hx
    by_cases e : j = i
    · rw [if_pos e] at ha; exact absurd ha hst
    · rw [if_neg e] at ha hx
      have := h.ws1 j hj ha k x hx
      show (getK rw0 rows k).2 = _
      rcases hrow k with ⟨h1, h2⟩ | ⟨h1, h2⟩
      · rw [h1]; exact this
      · rw [this] at h2; simp only at h2; omega
  · have hj : j < g.lives.length := by rw [← hll]; exact hj
    rw [hs j] at ha
    rw [hg j] at hx
    by_cases e : j = i
    · rw [if_pos e] at ha; exact absurd ha hst
    · rw [if_neg e] at ha hx
      have := h.ws2 j hj ha k hx
      show (getK rw0 rows k).2.w ≠ _
      rcases hrow k with ⟨h1, h2⟩ | ⟨h1, h2⟩
      · rw [h1]; exact this
      · rw [h1]; show (0 : Int) ≠ _; omega
  · have hp : p ∈ s.txns.set i (st, (sti s i).2) := hp
    rcases List.mem_or_eq_of_mem_set hp with h1 | rfl
    · exact h.low p h1 e
    · exact absurd e hst
end
section
variable {s : MS} {g : Lg} (hm : OkM s) (h : LI s g)
include hm h
theorem LI.drop {i : Nat} (hi : i < g.lives.length) {st : Int} (hst : st ≠ 1) {l : Lf} (hl : l.task = (gl g i).task ∧ l.n = (gl g i).n ∧ l.sn = (gl g i).sn) : LI (endM s ((i : Int) + 1) st (dropR ((i : Int) + 1))) ⟨g.time, g.facts, g.lives.set i l⟩ := by
  have e := endM_eq (s := s) (i := i) (st := st) (c := s.clock) (f := dropR ((i : Int) + 1))
  have e2 : endM s ((i : Int) + 1) st (dropR ((i : Int) + 1)) = ⟨s.cf, s.clock, s.floor, s.txns.set i (st, (sti s i).2), s.tasks, mapR (dropR ((i : Int) + 1)) s.rows⟩ := e
  rw [e2, h.time]
  refine h.ended hi hst hl (fun k => ?_) (fun x hx => by rw [← h.time]; exact h.fts x hx) (fun k q hq => ?_)
  · rw [hm.g_drop (by omega)]
    unfold dropR
    by_cases e : (getR s k).2.w = (i : Int) + 1
    · rw [if_pos e]; exact .inr ⟨rfl, e⟩
    · rw [if_neg e]; exact .inl ⟨rfl, e⟩
  · rw [hm.g_drop (by omega)]
    have e3 : (dropR ((i : Int) + 1) (getR s k)).1 = (getR s k).1 := by unfold dropR; split <;> rfl
    rw [e3]; exact h.fac k q hq
/-- what is seen behind a commit -/
theorem LI.comm {i : Nat} (hi : i < g.lives.length) (ha : (sti s i).1 = 1) {l : Lf} (hl : l.task = (gl g i).task ∧ l.n = (gl g i).n ∧ l.sn = (gl g i).sn) :
    LI (endM { s with clock := s.clock + 1 } ((i : Int) + 1) 3 (commR ((i : Int) + 1) (s.clock + 1))) ⟨g.time + 1, g.facts ++ lastFs (g.time + 1) (gl g i).ws, g.lives.set i l⟩ := by
  rw [endM_eq, h.time]
  have hc := hm.clk.1
  have hts : ∀ x ∈ lastFs (s.clock + 1) (gl g i).ws, x.ts = s.clock + 1 := fun x hx => by
    obtain ⟨y, _, e⟩ := mem_lastFs.1 hx
    rw [e]
  have hft := h.fts
  rw [h.time] at hft
  refine h.ended hi (by decide) hl (fun k => ?_) (fun x hx => ?_) (fun k q hq => ?_)
  · rw [hm.g_comm (by omega)]
    unfold commR
    by_cases e : (getR s k).2.w = (i : Int) + 1
    · rw [if_pos e]; exact .inr ⟨rfl, e⟩
    · rw [if_neg e]; exact .inl ⟨rfl, e⟩
  · rcases List.mem_append.1 hx with h1 | h1
    · have := hft x h1; omega
    · have := hts x h1; omega
  · rw [hm.g_comm (by omega), bestF_app]
    have hb : (bestF k q g.facts).ts ≤ s.clock := best_ts hc hft
    obtain ⟨f1, f2⟩ := h.fac k q hq
    unfold commR
    by_cases e : (getR s k).2.w = (i : Int) + 1
    · rw [if_pos e]
      cases hw : lastW k (gl g i).ws with
      | none => exact absurd e (h.ws2 i hi ha k hw)
      | some x =>
        have hi2 := h.ws1 i hi ha k x hw
        have hxk := (lastW_some hw).2
        simp only
        rw [seenB_cons, seen_cons]
        by_cases hq2 : q < s.clock + 1
        · rw [if_pos hq2, if_pos hq2, best_none (fun f hf _ => .inl (by rw [hts f hf]; exact hq2))]
          exact ⟨f1, f2⟩
        · have hbn : (lastFs (s.clock + 1) (gl g i).ws).foldl (bestS k q) (bestF k q g.facts) = { x with ts := s.clock + 1 } := by
            refine best_new (c := s.clock + 1) (by omega) (.inl (by omega)) hts (fun f hf hk => ?_) (.inl (mem_lastFs.2 ⟨x, by show lastW x.key _ = _; rw [hxk]; exact hw, rfl⟩)) hxk rfl
            obtain ⟨y, hy1, hy2⟩ := mem_lastFs.1 hf
            rw [hk, hw] at hy1
            obtain rfl : x = y := by simpa using hy1
            exact hy2
          rw [if_neg hq2, if_neg hq2, hbn, hi2]
          refine ⟨rfl, fun e5 => ?_⟩
          simp only at e5 ⊢
          cases hxt : x.tomb with
          | true => rw [hxt] at e5; cases e5
          | false => rfl
    · rw [if_neg e]
      have hno : lastW k (gl g i).ws = none := by
        cases hw : lastW k (gl g i).ws with
        | none => rfl
        | some x => exact absurd (by rw [h.ws1 i hi ha k x hw]) e
      rw [best_none (fun f hf hk => by
        obtain ⟨y, hy1, _⟩ := mem_lastFs.1 hf
        rw [hk, hno] at hy1; cases hy1)]
      exact ⟨f1, f2⟩
theorem LI.put {i : Nat} (hi : i < g.lives.length) {f : Fc} (hcl : clashM s ((i : Int) + 1) (getR s f.key) = false) : LI (putM s f.key ⟨(i : Int) + 1, 0, f.tomb, f.val⟩) (addW g i f) := by
  have hgt := get_putM hm f.key ⟨(i : Int) + 1, 0, f.tomb, f.val⟩
  have hg : ∀ j, gl (addW g i f) j = if j = i then { gl g i with ws := (gl g i).ws ++ [f] } else gl g j := fun j => gl_set hi
  have hll : (addW g i f).lives.length = g.lives.length := List.length_set ..
  have hno : ∀ j : Nat, (getR s f.key).2.w = (j : Int) + 1 → j = i := fun j e => by
    unfold clashM at hcl
    rw [Bool.or_eq_false_iff, Bool.and_eq_false_iff] at hcl
    rcases hcl.1 with h1 | h1
    · have := of_decide_eq_false h1; omega
    · have := of_decide_eq_false h1; omega
  refine ⟨h.time, hll.trans h.len, fun t n j hj => ?_, fun t h1 h2 => ?_, fun j hj => ?_, fun j hj ha k x hx => ?_, fun j hj ha k hx => ?_, h.fts, fun k q hq => ?_, h.low⟩
  · have := h.who t n j (by omega)
    rw [hg j]
    by_cases e : j = i
    · rw [if_pos e]; subst e; exact this
    · rw [if_neg e]; exact this
  · show cntL t (g.lives.set i _) = _
    exact (cntL_set t (v := { g.lives.getD i lf0 with ws := (g.lives.getD i lf0).ws ++ [f] }) rfl).trans (h.cnt t h1 h2)
  · have := h.sn j (by omega)
    rw [hg j]
    by_cases e : j = i
    · rw [if_pos e]; subst e; exact this
    · rw [if_neg e]; exact this
  · rw [hgt]
    rw [hg j] at hx
    by_cases e : j = i
    · subst e
      rw [if_pos rfl] at hx
      simp only at hx
      rw [lastW_app] at hx
      by_cases e2 : f.key = k
      · rw [if_pos e2] at hx
        obtain rfl : f = x := by simpa using hx
        rw [if_pos e2.symm]
      · rw [if_neg e2] at hx
        rw [if_neg (fun e3 => e2 e3.symm)]
        exact h.ws1 j (by omega) ha k x hx
    · rw [if_neg e] at hx
      have := h.ws1 j (by omega) ha k x hx
      by_cases e2 : k = f.key
      · subst e2
        exact absurd (hno j (by rw [this])) e
      · rw [if_neg e2]; exact this
  · rw [hgt]
    rw [hg j] at hx
    by_cases e : j = i
    · subst e
      rw [if_pos rfl] at hx
      simp only at hx
      rw [lastW_app] at hx
      by_cases e2 : f.key = k
      · rw [if_pos e2] at hx; cases hx
      · rw [if_neg e2] at hx
        rw [if_neg (fun e3 => e2 e3.symm)]
        exact h.ws2 j (by omega) ha k hx
    · rw [if_neg e] at hx
      have := h.ws2 j (by omega) ha k hx
      by_cases e2 : k = f.key
      · rw [if_pos e2]; simp only; omega
      · rw [if_neg e2]; exact this
  · have := h.fac k q hq
    rw [hgt]
    by_cases e2 : k = f.key
    · rw [if_pos e2]; subst e2; exact this
    · rw [if_neg e2]; exact this
theorem LI.begin {t at_ : Int} (ht : 0 ≤ t ∧ t < s.tasks.length) : LI (beginM s t) { g with lives := g.lives ++ [⟨t, (cntL t g.lives : Int) + 1, g.time, [], at_, 0⟩] } := by
  have hl := h.len
  have hg : ∀ j, j < g.lives.length + 1 → gl { g with lives := g.lives ++ [⟨t, (cntL t g.lives : Int) + 1, g.time, [], at_, 0⟩] } j = if j = g.lives.length then ⟨t, (cntL t g.lives : Int) + 1, g.time, [], at_, 0⟩ else gl g j := fun j hj => getD_app hj
  have hs : ∀ j, j < g.lives.length + 1 → sti (beginM s t) j = if j = g.lives.length then (1, s.clock) else sti s j := fun j hj => by
    show (s.txns ++ [(1, s.clock)]).getD j (0, 0) = _
    rw [hl]; exact getD_app (by omega)
  have hll : ∀ l : Lf, (g.lives ++ [l]).length = g.lives.length + 1 := fun l => by simp
  have hcn := h.cnt t ht.1 ht.2
  refine ⟨h.time, ?_, fun t' n j hj => ?_, fun t' h1 h2 => ?_, fun j hj => ?_, fun j hj ha k x hx => ?_, fun j hj ha k hx => ?_, h.fts, h.fac, fun p hp e => ?_⟩
  · show (g.lives ++ _).length = (s.txns ++ [((1 : Int), s.clock)]).length
    simp [hl]
  · have hj : j < g.lives.length + 1 := by rw [← hll]; exact hj
    rw [hg j hj, tx_begin ht]
    by_cases e : j = g.lives.length
    · rw [if_pos e]
      simp only
      by_cases e2 : t' = t ∧ n = ((s.tasks.getD t.toNat []).length : Int) + 1
      · rw [if_pos e2]
        exact ⟨fun _ => ⟨e2.1.symm, by omega⟩, fun _ => by omega⟩
      · rw [if_neg e2]
        constructor
        · intro e3
          rcases hm.tx t' n with e4 | ⟨_, _, _, _, _, _, h7⟩
          · omega
          · omega
        · intro e3; exact absurd ⟨e3.1.symm, by omega⟩ e2
    · rw [if_neg e]
      have hw := h.who t' n j (by omega)
      by_cases e2 : t' = t ∧ n = ((s.tasks.getD t.toNat []).length : Int) + 1
      · rw [if_pos e2]
        constructor
        · intro e3; omega
        · intro e3
          have e4 := hw.2 e3
          exfalso
          unfold txW at e4
          rw [e2.1, e2.2, if_pos (by omega)] at e4
          omega
      · rw [if_neg e2]; exact hw
  · have h2 : t' < s.tasks.length := by
      have : t' < ((s.tasks.set t.toNat (s.tasks.getD t.toNat [] ++ [((s.txns.length + 1 : Nat) : Int)])).length : Int) := h2
      rwa [List.length_set] at this
    show cntL t' (g.lives ++ [_]) = ((s.tasks.set t.toNat (s.tasks.getD t.toNat [] ++ [((s.txns.length + 1 : Nat) : Int)])).getD t'.toNat []).length
    rw [cntL_app, getD_set (by omega), h.cnt t' h1 h2]
    simp only
    by_cases e : t = t'
    · subst e; rw [if_pos rfl, if_pos rfl]; simp
    · rw [if_neg e, if_neg (by omega)]; rfl
  · have hj : j < g.lives.length + 1 := by rw [← hll]; exact hj
    rw [hg j hj, hs j hj]
    by_cases e : j = g.lives.length
    · rw [if_pos e, if_pos e]; exact h.time
    · rw [if_neg e, if_neg e]; exact h.sn j (by omega)
  · have hj : j < g.lives.length + 1 := by rw [← hll]; exact hj
    rw [hg j hj] at hx
    rw [hs j hj] at ha
    by_cases e : j = g.lives.length
    · rw [if_pos e] at hx; cases hx
    · rw [if_neg e] at hx ha; exact h.ws1 j (by omega) ha k x hx
  · have hj : j < g.lives.length + 1 := by rw [← hll]; exact hj
    rw [hg j hj] at hx
    rw [hs j hj] at ha
    by_cases e : j = g.lives.length
    · have := (hm.get k).2.1.2.1
      show (getR s k).2.w ≠ _
      omega
    · rw [if_neg e] at hx ha; exact h.ws2 j (by omega) ha k hx
  · have hp : p ∈ s.txns ++ [((1 : Int), s.clock)] := hp
    rcases List.mem_append.1 hp with h1 | h1
    · exact h.low p h1 e
    · rw [List.mem_singleton] at h1
      subst h1; exact hm.flo.2
theorem LI.vac : LI (vacM s) g := by
  have hge : s.floor ≤ floorM s := floor_ge _ _ hm.flo.2 h.low
  have hg := hm.g_kept (floorM s)
  have hgr : ∀ k, getR (vacM s) k = keptR (floorM s) (getR s k) := hg
  refine ⟨h.time, h.len, h.who, h.cnt, h.sn, fun i hi ha k f hf => ?_, fun i hi ha k hf => ?_, h.fts, fun k q hq => ?_, fun p hp e => floor_lo _ _ p hp e⟩
  · rw [hgr]; exact h.ws1 i hi ha k f hf
  · rw [hgr]; exact h.ws2 i hi ha k hf
  · have hq : floorM s ≤ q := hq
    have hv := VL.kept (getR s k).1 (floorM s)
    rw [hgr]
    show seenB (kept (getR s k).1 (floorM s)) q = _ ∧ _
    rw [hv.sb q hq]
    have := h.fac k q (by omega)
    refine ⟨this.1, fun e => ?_⟩
    show (seen (kept (getR s k).1 (floorM s)) q).val = _
    rw [hv.sv q hq]
    exact this.2 (by rw [← e]; exact (hv.sb q hq).symm)
theorem LI.do_ (at_ t : Int) (x : Cl) : LI (doM s t x).1 (noteL g at_ t x (doM s t x).2) := by
  have hset : ∀ i, i < g.lives.length → g.lives.set i (gl g i) = g.lives := fun i hi => by
    have e : gl g i = g.lives[i] := by unfold gl; rw [List.getD_eq_getElem?_getD, List.getElem?_eq_getElem hi]; rfl
    rw [e]; exact List.set_getElem_self hi
  rcases stepC hm h at_ t x with ⟨e1, e2⟩ | ⟨ht, _, e1, e2⟩ | ⟨i, f, hi, ha, hc, e1, e2, _⟩ | ⟨i, hi, ha, e1, e2⟩ | ⟨i, hi, ha, hne, e1, e2⟩ | ⟨i, hi, ha, hne, e1, e2⟩ | ⟨e1, e2⟩
  · rw [e1, e2]; exact h
  · rw [e1, e2]; exact h.begin hm ht
  · rw [e1, e2]; exact h.put hm hi hc
  · rw [e1, e2]
    have := h.drop hm hi (st := 4) (by decide) (l := gl g i) ⟨rfl, rfl, rfl⟩
    rw [hset i hi] at this; exact this
  · rw [e1, e2]; exact h.comm hm hi ha ⟨rfl, rfl, rfl⟩
  · rw [e1, e2]; exact h.drop hm hi (by decide) ⟨rfl, rfl, rfl⟩
  · rw [e1, e2]; exact h.vac hm
end
end Go.Proofs.Ytoinjnocopejjaa
