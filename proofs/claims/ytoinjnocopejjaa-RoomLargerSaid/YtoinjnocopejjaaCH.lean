/- Chains of operations in a drawn region; four loads in free order. -/
import Derived.Deep.RegionHeld3
import Derived.RegionTactic
namespace Go.Proofs.Ytoinjnocopejjaa
set_option linter.unusedVariables false
set_option linter.unusedSimpArgs false
def chains4B (md : Region.Mode) (ops : Array Oper) (a b c d : Nat) (p q r t : Nat → Nat) (ok : Nat → Nat → Nat → Nat → Bool) (L : Nat → Nat → Nat → Nat → Array Bool) : Bool :=
  (List.range (a + 1)).all fun i => (List.range (b + 1)).all fun j => (List.range (c + 1)).all fun k => (List.range (d + 1)).all fun l => !ok i j k l || decide (a + b + c + d ≤ i + j + k + l) ||
    (!(Region.ready md ops (L i j k l)).isEmpty && (Region.ready md ops (L i j k l)).all fun o => (decide (i < a) && o == p i && ok (i + 1) j k l) || (decide (j < b) && o == q j && ok i (j + 1) k l) || (decide (k < c) && o == r k && ok i j (k + 1) l) || (decide (l < d) && o == t l && ok i j k (l + 1)))
section
variable {P : Program} {md : Region.Mode} {ops : Array Oper} {Q : Exit → Act → World → Prop} {S : World → Prop}
/-- Chains of a, b, c, d operations; how far each is: i, j, k, l. A chain's next operation is to be shown only where it may come up. -/
theorem chains4 (a b c d fuel : Nat) (p q r t : Nat → Nat) (ok : Nat → Nat → Nat → Nat → Bool) (L : Nat → Nat → Nat → Nat → Array Bool) (Inv : Nat → Nat → Nat → Nat → Act → World → Prop)
    (hr : chains4B md ops a b c d p q r t ok L = true)
    (h1 : ∀ i, i < a → ∀ j, j ≤ b → ∀ k, k ≤ c → ∀ l, l ≤ d → (L i j k l).setIfInBounds (p i) true = L (i + 1) j k l)
    (h2 : ∀ i, i ≤ a → ∀ j, j < b → ∀ k, k ≤ c → ∀ l, l ≤ d → (L i j k l).setIfInBounds (q j) true = L i (j + 1) k l)
    (h3 : ∀ i, i ≤ a → ∀ j, j ≤ b → ∀ k, k < c → ∀ l, l ≤ d → (L i j k l).setIfInBounds (r k) true = L i j (k + 1) l)
    (h4 : ∀ i, i ≤ a → ∀ j, j ≤ b → ∀ k, k ≤ c → ∀ l, l < d → (L i j k l).setIfInBounds (t l) true = L i j k (l + 1))
    (s1 : ∀ i j k l x w, i < a → j ≤ b → k ≤ c → l ≤ d → ok (i + 1) j k l = true → Inv i j k l x w → S w → wpOp P ops Q (p i) (fun x' w' => S w' ∧ Inv (i + 1) j k l x' w') x w)
    (s2 : ∀ i j k l x w, i ≤ a → j < b → k ≤ c → l ≤ d → ok i (j + 1) k l = true → Inv i j k l x w → S w → wpOp P ops Q (q j) (fun x' w' => S w' ∧ Inv i (j + 1) k l x' w') x w)
    (s3 : ∀ i j k l x w, i ≤ a → j ≤ b → k < c → l ≤ d → ok i j (k + 1) l = true → Inv i j k l x w → S w → wpOp P ops Q (r k) (fun x' w' => S w' ∧ Inv i j (k + 1) l x' w') x w)
    (s4 : ∀ i j k l x w, i ≤ a → j ≤ b → k ≤ c → l < d → ok i j k (l + 1) = true → Inv i j k l x w → S w → wpOp P ops Q (t l) (fun x' w' => S w' ∧ Inv i j k (l + 1) x' w') x w)
    (fin : ∀ x w, Inv a b c d x w → S w → wpAnyH P md ops Q S fuel (L a b c d) x w) :
    ∀ (n i j k l : Nat) (x : Act) (w : World), i ≤ a → j ≤ b → k ≤ c → l ≤ d → n + (i + j + k + l) = a + b + c + d → ok i j k l = true → Inv i j k l x w → S w → wpAnyH P md ops Q S (fuel + n) (L i j k l) x w
  | 0, i, j, k, l, x, w, hi, hj, hk, hl, hn, hok, hI, hS => by
    obtain rfl : i = a := by omega
    obtain rfl : j = b := by omega
    obtain rfl : k = c := by omega
    obtain rfl : l = d := by omega
    exact fin x w hI hS
  | n + 1, i, j, k, l, x, w, hi, hj, hk, hl, hn, hok, hI, hS => by
    have hr' := hr
    unfold chains4B at hr'
    have hr1 := List.all_eq_true.1 (List.all_eq_true.1 (List.all_eq_true.1 (List.all_eq_true.1 hr' i (List.mem_range.2 (by omega))) j (List.mem_range.2 (by omega))) k (List.mem_range.2 (by omega))) l (List.mem_range.2 (by omega))
    rw [hok, decide_eq_false (show ¬ a + b + c + d ≤ i + j + k + l by omega), Bool.not_true, Bool.false_or, Bool.false_or, Bool.and_eq_true] at hr1
    have hne : Region.ready md ops (L i j k l) ≠ [] := fun e => by rw [e] at hr1; cases hr1.1
    have hrd : ∀ o ∈ Region.ready md ops (L i j k l), ((i < a ∧ o = p i) ∧ ok (i + 1) j k l = true) ∨ ((j < b ∧ o = q j) ∧ ok i (j + 1) k l = true) ∨ ((k < c ∧ o = r k) ∧ ok i j (k + 1) l = true) ∨ ((l < d ∧ o = t l) ∧ ok i j k (l + 1) = true) := fun o ho => by
      have := List.all_eq_true.1 hr1.2 o ho
      simpa [Bool.or_eq_true, Bool.and_eq_true, or_assoc] using this
    refine wpAnyH_ready (rs := Region.ready md ops (L i j k l)) rfl hne ?_
    intro o ho
    rcases hrd o ho with ⟨⟨h, rfl⟩, hc⟩ | ⟨⟨h, rfl⟩, hc⟩ | ⟨⟨h, rfl⟩, hc⟩ | ⟨⟨h, rfl⟩, hc⟩
    · refine wpOp_mono (fun x' w' h' => ⟨h'.1, ?_⟩) (s1 i j k l x w h hj hk hl hc hI hS)
      rw [h1 i h j hj k hk l hl]
      exact chains4 a b c d fuel p q r t ok L Inv hr h1 h2 h3 h4 s1 s2 s3 s4 fin n (i + 1) j k l x' w' h hj hk hl (by omega) hc h'.2 h'.1
    · refine wpOp_mono (fun x' w' h' => ⟨h'.1, ?_⟩) (s2 i j k l x w hi h hk hl hc hI hS)
      rw [h2 i hi j h k hk l hl]
      exact chains4 a b c d fuel p q r t ok L Inv hr h1 h2 h3 h4 s1 s2 s3 s4 fin n i (j + 1) k l x' w' hi h hk hl (by omega) hc h'.2 h'.1
    · refine wpOp_mono (fun x' w' h' => ⟨h'.1, ?_⟩) (s3 i j k l x w hi hj h hl hc hI hS)
      rw [h3 i hi j hj k h l hl]
      exact chains4 a b c d fuel p q r t ok L Inv hr h1 h2 h3 h4 s1 s2 s3 s4 fin n i j (k + 1) l x' w' hi hj h hl (by omega) hc h'.2 h'.1
    · refine wpOp_mono (fun x' w' h' => ⟨h'.1, ?_⟩) (s4 i j k l x w hi hj hk h hc hI hS)
      rw [h4 i hi j hj k hk l h]
      exact chains4 a b c d fuel p q r t ok L Inv hr h1 h2 h3 h4 s1 s2 s3 s4 fin n i j k (l + 1) x' w' hi hj hk h (by omega) hc h'.2 h'.1
end

theorem wpAnyH_cast {P : Program} {md : Region.Mode} {ops : Array Oper} {Q : Exit → Act → World → Prop} {S : World → Prop} {f f' : Nat} {l l' : Array Bool} {x : Act} {w : World} (h1 : f' = f) (h2 : l' = l) (h : wpAnyH P md ops Q S f l x w) : wpAnyH P md ops Q S f' l' x w := by subst h1 h2; exact h

def putIf (n t : Nat) (v : Value) (x : Act) : Act := if n = 0 then x else x.put (some t) v
theorem putIf_put {n t t' : Nat} {v v' : Value} {x : Act} (h : t ≠ t') : (putIf n t v x).put (some t') v' = putIf n t v (x.put (some t') v') := by
  unfold putIf
  split
  · rfl
  · exact Act.put_comm x v v' (fun d h1 h2 => by cases h1; cases h2; exact h rfl)
theorem putIf_1 {t : Nat} {v : Value} {x : Act} : putIf 1 t v x = x.put (some t) v := rfl
theorem putIf_0 {t : Nat} {v : Value} {x : Act} : putIf 0 t v x = x := rfl
section
variable {P : Program} {md : Region.Mode} {ops : Array Oper} {Q : Exit → Act → World → Prop} {S : World → Prop}
theorem exec_putIf {o : Oper} (hs : ∀ cs b, o.op ≠ .select cs b) {n t : Nat} {v : Value} {x : Act} (h : t ∉ o.looksAt ops) : execOp (putIf n t v x).eval o = execOp x.eval o := by
  unfold putIf
  split
  · rfl
  · exact execOp_put o hs x (some t) v (fun d hd => by cases hd; exact h)
/-- a load: its operation, its number, its slot -/
structure Ld (ops : Array Oper) (i : Nat) (o : Oper) (t : Nat) (ts : List Nat) : Prop where
  at_ : ops[i]? = some o
  dst : o.dst = some t
  gd : o.guard = none
  sel : ∀ cs b, o.op ≠ .select cs b
  see : ∀ t ∈ ts, t ∉ o.looksAt ops
theorem Ld.step {i t : Nat} {o : Oper} {ts : List Nat} (h : Ld ops i o t ts) {v : Value} {x : Act} {w : World} (hv : (execOp x.eval o).run P w = .ok (.value v) w) {K : Act → World → Prop} (hK : K (x.put (some t) v) w) : wpOp P ops Q i K x w := by
  refine wpOp_step h.at_ (fun K' hK' => ?_)
  rw [if_pos (by unfold Region.wanted; rw [h.gd])]
  unfold Oper.wp
  rw [hv]
  show K' (x.put o.dst v) w
  rw [h.dst]
  exact hK' _ _ hK
theorem loads4 {i1 i2 i3 i4 t1 t2 t3 t4 fuel : Nat} {o1 o2 o3 o4 : Oper} {v1 v2 v3 v4 : Value} {x : Act} {w : World} (L : Nat → Nat → Nat → Nat → Array Bool)
    (d1 : Ld ops i1 o1 t1 [t1, t2, t3, t4]) (d2 : Ld ops i2 o2 t2 [t1, t2, t3, t4]) (d3 : Ld ops i3 o3 t3 [t1, t2, t3, t4]) (d4 : Ld ops i4 o4 t4 [t1, t2, t3, t4])
    (hne : t1 ≠ t2 ∧ t1 ≠ t3 ∧ t1 ≠ t4 ∧ t2 ≠ t3 ∧ t2 ≠ t4 ∧ t3 ≠ t4)
    (hr : chains4B md ops 1 1 1 1 (fun _ => i1) (fun _ => i2) (fun _ => i3) (fun _ => i4) (fun _ _ _ _ => true) L = true)
    (h1 : ∀ i, i < 1 → ∀ j, j ≤ 1 → ∀ k, k ≤ 1 → ∀ l, l ≤ 1 → (L i j k l).setIfInBounds i1 true = L (i + 1) j k l)
    (h2 : ∀ i, i ≤ 1 → ∀ j, j < 1 → ∀ k, k ≤ 1 → ∀ l, l ≤ 1 → (L i j k l).setIfInBounds i2 true = L i (j + 1) k l)
    (h3 : ∀ i, i ≤ 1 → ∀ j, j ≤ 1 → ∀ k, k < 1 → ∀ l, l ≤ 1 → (L i j k l).setIfInBounds i3 true = L i j (k + 1) l)
    (h4 : ∀ i, i ≤ 1 → ∀ j, j ≤ 1 → ∀ k, k ≤ 1 → ∀ l, l < 1 → (L i j k l).setIfInBounds i4 true = L i j k (l + 1))
    (e1 : (execOp x.eval o1).run P w = .ok (.value v1) w) (e2 : (execOp x.eval o2).run P w = .ok (.value v2) w) (e3 : (execOp x.eval o3).run P w = .ok (.value v3) w) (e4 : (execOp x.eval o4).run P w = .ok (.value v4) w)
    (hS : S w) (fin : wpAnyH P md ops Q S fuel (L 1 1 1 1) ((((x.put (some t4) v4).put (some t3) v3).put (some t2) v2).put (some t1) v1) w) : wpAnyH P md ops Q S (fuel + 4) (L 0 0 0 0) x w := by
  have see : ∀ {o : Oper} {i t : Nat}, Ld ops i o t [t1, t2, t3, t4] → ∀ i j k l, execOp (putIf i t1 v1 (putIf j t2 v2 (putIf k t3 v3 (putIf l t4 v4 x)))).eval o = execOp x.eval o := fun d i j k l => by
    rw [exec_putIf d.sel (d.see t1 (by simp)), exec_putIf d.sel (d.see t2 (by simp)), exec_putIf d.sel (d.see t3 (by simp)), exec_putIf d.sel (d.see t4 (by simp))]
  refine chains4 1 1 1 1 fuel (fun _ => i1) (fun _ => i2) (fun _ => i3) (fun _ => i4) (fun _ _ _ _ => true) L (fun i j k l x' W => W = w ∧ x' = putIf i t1 v1 (putIf j t2 v2 (putIf k t3 v3 (putIf l t4 v4 x)))) hr h1 h2 h3 h4 ?_ ?_ ?_ ?_ ?_ 4 0 0 0 0 x w (by decide) (by decide) (by decide) (by decide) rfl rfl ⟨rfl, rfl⟩ hS
  · rintro i j k l x' W hi hj hk hl _ ⟨rfl, rfl⟩ _
    obtain rfl : i = 0 := by omega
    exact d1.step (by rw [see d1]; exact e1) ⟨hS, rfl, rfl⟩
  · rintro i j k l x' W hi hj hk hl _ ⟨rfl, rfl⟩ _
    obtain rfl : j = 0 := by omega
    exact d2.step (by rw [see d2]; exact e2) ⟨hS, rfl, by rw [putIf_put hne.1]; rfl⟩
  · rintro i j k l x' W hi hj hk hl _ ⟨rfl, rfl⟩ _
    obtain rfl : k = 0 := by omega
    exact d3.step (by rw [see d3]; exact e3) ⟨hS, rfl, by rw [putIf_put hne.2.1, putIf_put hne.2.2.2.1]; rfl⟩
  · rintro i j k l x' W hi hj hk hl _ ⟨rfl, rfl⟩ _
    obtain rfl : l = 0 := by omega
    exact d4.step (by rw [see d4]; exact e4) ⟨hS, rfl, by rw [putIf_put hne.2.2.1, putIf_put hne.2.2.2.2.1, putIf_put hne.2.2.2.2.2]; rfl⟩
  · rintro x' W ⟨rfl, rfl⟩ _
    exact fin
theorem tkL0 {i : Nat} {oi : Oper} {v : Value} {fuel : Nat} {listed : Array Bool} {a : Act} {w : World}
    (hc : (Region.noSelect ops && (Region.free md ops listed i && (Region.ready md ops listed).contains i)) = true) (hi : ops[i]? = some oi) (hw : Region.wanted oi (yielded ops a.tmps) = true) (hv : ∀ w, S w → (execOp a.eval oi).run P w = .ok (.value v) w)
    (hQ : ∀ c a w, Q (.panic c) (a.put oi.dst v) w → Q (.panic c) a w) (hS : S w) (h : wpAnyH P md ops Q S fuel (listed.setIfInBounds i true) (a.put oi.dst v) w) : wpAnyH P md ops Q S (fuel + 1) listed a w := by
  simp only [Bool.and_eq_true] at hc
  exact wpAnyH_take hi hc.1 hc.2.1 hc.2.2 hQ (Or.inl ⟨hw, hv⟩) hS h
/-- a load and what is made of it -/
theorem st4 {F : Nat → Nat → Nat → Nat → Nat → Prop} (f : F 0 1 1 1 1) (h : ∀ r i j k l, i ≤ 1 → j ≤ 1 → k ≤ 1 → l ≤ 1 → r + 1 + (i + j + k + l) = 4 → (i = 0 → F r 1 j k l) → (j = 0 → F r i 1 k l) → (k = 0 → F r i j 1 l) → (l = 0 → F r i j k 1) → F (r + 1) i j k l) : ∀ r i j k l, i ≤ 1 → j ≤ 1 → k ≤ 1 → l ≤ 1 → r + (i + j + k + l) = 4 → F r i j k l
  | 0, i, j, k, l, hi, hj, hk, hl, hr => by
    obtain rfl : i = 1 := by omega
    obtain rfl : j = 1 := by omega
    obtain rfl : k = 1 := by omega
    obtain rfl : l = 1 := by omega
    exact f
  | r + 1, i, j, k, l, hi, hj, hk, hl, hr => h r i j k l hi hj hk hl hr (fun e => st4 f h r 1 j k l (by decide) hj hk hl (by omega)) (fun e => st4 f h r i 1 k l hi (by decide) hk hl (by omega)) (fun e => st4 f h r i j 1 l hi hj (by decide) hl (by omega)) (fun e => st4 f h r i j k 1 hi hj hk (by decide) (by omega))
def rd4B (md : Region.Mode) (ops : Array Oper) (i1 i2 i3 i4 : Nat) (L : Nat → Nat → Nat → Nat → Array Bool) : Bool :=
  (List.range 2).all fun i => (List.range 2).all fun j => (List.range 2).all fun k => (List.range 2).all fun l => decide (4 ≤ i + j + k + l) ||
    (!(Region.ready md ops (L i j k l)).isEmpty && (Region.ready md ops (L i j k l)).all fun o => (i == 0 && o == i1) || (j == 0 && o == i2) || (k == 0 && o == i3) || (l == 0 && o == i4))
def Tk (md : Region.Mode) (ops : Array Oper) (l : Array Bool) (m : Nat) : Prop := (Region.noSelect ops && (Region.free md ops l m && (Region.ready md ops l).contains m)) = true
/-- an operation that looks at its own chain alone -/
structure Mx (ops : Array Oper) (m : Nat) (o : Oper) (s : Nat) (ts : List Nat) : Prop where
  at_ : ops[m]? = some o
  dst : o.dst = some s
  gd : o.guard = none
  sel : ∀ cs b, o.op ≠ .select cs b
  see : ∀ t ∈ ts, t ∉ o.looksAt ops
set_option maxHeartbeats 4000000 in
theorem loads4m {i1 i2 i3 i4 m1 m2 m3 m4 t1 t2 t3 t4 s1 s2 s3 s4 fuel : Nat} {o1 o2 o3 o4 q1 q2 q3 q4 : Oper} {v1 v2 v3 v4 u1 u2 u3 u4 : Value} {x : Act} {w : World} (L : Nat → Nat → Nat → Nat → Array Bool)
    (d1 : Ld ops i1 o1 t1 [t1, s1, t2, s2, t3, s3, t4, s4]) (y1 : Mx ops m1 q1 s1 [t2, s2, t3, s3, t4, s4])
    (d2 : Ld ops i2 o2 t2 [t1, s1, t2, s2, t3, s3, t4, s4]) (y2 : Mx ops m2 q2 s2 [t1, s1, t3, s3, t4, s4])
    (d3 : Ld ops i3 o3 t3 [t1, s1, t2, s2, t3, s3, t4, s4]) (y3 : Mx ops m3 q3 s3 [t1, s1, t2, s2, t4, s4])
    (d4 : Ld ops i4 o4 t4 [t1, s1, t2, s2, t3, s3, t4, s4]) (y4 : Mx ops m4 q4 s4 [t1, s1, t2, s2, t3, s3])
    (nd : [t1, s1, t2, s2, t3, s3, t4, s4].Nodup) (hr : rd4B md ops i1 i2 i3 i4 L = true)
    (c1 : ∀ j k l, j ≤ 1 → k ≤ 1 → l ≤ 1 → Tk md ops ((L 0 j k l).setIfInBounds i1 true) m1 ∧ ((L 0 j k l).setIfInBounds i1 true).setIfInBounds m1 true = L 1 j k l)
    (c2 : ∀ i k l, i ≤ 1 → k ≤ 1 → l ≤ 1 → Tk md ops ((L i 0 k l).setIfInBounds i2 true) m2 ∧ ((L i 0 k l).setIfInBounds i2 true).setIfInBounds m2 true = L i 1 k l)
    (c3 : ∀ i j l, i ≤ 1 → j ≤ 1 → l ≤ 1 → Tk md ops ((L i j 0 l).setIfInBounds i3 true) m3 ∧ ((L i j 0 l).setIfInBounds i3 true).setIfInBounds m3 true = L i j 1 l)
    (c4 : ∀ i j k, i ≤ 1 → j ≤ 1 → k ≤ 1 → Tk md ops ((L i j k 0).setIfInBounds i4 true) m4 ∧ ((L i j k 0).setIfInBounds i4 true).setIfInBounds m4 true = L i j k 1)
    (e1 : (execOp x.eval o1).run P w = .ok (.value v1) w) (g1 : ∀ W, S W → (execOp (x.put (some t1) v1).eval q1).run P W = .ok (.value u1) W)
    (e2 : (execOp x.eval o2).run P w = .ok (.value v2) w) (g2 : ∀ W, S W → (execOp (x.put (some t2) v2).eval q2).run P W = .ok (.value u2) W)
    (e3 : (execOp x.eval o3).run P w = .ok (.value v3) w) (g3 : ∀ W, S W → (execOp (x.put (some t3) v3).eval q3).run P W = .ok (.value u3) W)
    (e4 : (execOp x.eval o4).run P w = .ok (.value v4) w) (g4 : ∀ W, S W → (execOp (x.put (some t4) v4).eval q4).run P W = .ok (.value u4) W)
    (hQ : ∀ c a a' w, Q (.panic c) a w → Q (.panic c) a' w) (hS : S w) (fin : wpAnyH P md ops Q S fuel (L 1 1 1 1) (putIf 1 s1 u1 (putIf 1 t1 v1 (putIf 1 s2 u2 (putIf 1 t2 v2 (putIf 1 s3 u3 (putIf 1 t3 v3 (putIf 1 s4 u4 (putIf 1 t4 v4 x)))))))) w) : wpAnyH P md ops Q S (fuel + 8) (L 0 0 0 0) x w := by
  refine st4 (F := fun r i j k l => wpAnyH P md ops Q S (fuel + 2 * r) (L i j k l) (putIf i s1 u1 (putIf i t1 v1 (putIf j s2 u2 (putIf j t2 v2 (putIf k s3 u3 (putIf k t3 v3 (putIf l s4 u4 (putIf l t4 v4 x)))))))) w) fin ?_ 4 0 0 0 0 (by decide) (by decide) (by decide) (by decide) rfl
  intro r i j k l hi hj hk hl hrr f1 f2 f3 f4
  have hr' := hr
  unfold rd4B at hr'
  have hr1 := List.all_eq_true.1 (List.all_eq_true.1 (List.all_eq_true.1 (List.all_eq_true.1 hr' i (List.mem_range.2 (by omega))) j (List.mem_range.2 (by omega))) k (List.mem_range.2 (by omega))) l (List.mem_range.2 (by omega))
  rw [decide_eq_false (show ¬ 4 ≤ i + j + k + l by omega), Bool.false_or, Bool.and_eq_true] at hr1
  have hne2 : Region.ready md ops (L i j k l) ≠ [] := fun e => by rw [e] at hr1; cases hr1.1
  have hrd : ∀ o ∈ Region.ready md ops (L i j k l), (i = 0 ∧ o = i1) ∨ (j = 0 ∧ o = i2) ∨ (k = 0 ∧ o = i3) ∨ (l = 0 ∧ o = i4) := fun o ho => by
    have := List.all_eq_true.1 hr1.2 o ho
    simpa [Bool.or_eq_true, Bool.and_eq_true, or_assoc] using this
  show wpAnyH P md ops Q S ((fuel + 2 * r + 1) + 1) _ _ _
  refine wpAnyH_ready (rs := Region.ready md ops (L i j k l)) rfl hne2 ?_
  intro o ho
  rcases hrd o ho with ⟨rfl, rfl⟩ | ⟨rfl, rfl⟩ | ⟨rfl, rfl⟩ | ⟨rfl, rfl⟩
  · have hne := nd
    simp only [List.nodup_cons, List.mem_cons, List.not_mem_nil, or_false, not_or, not_false_eq_true, List.nodup_nil, and_true] at hne
    obtain ⟨⟨_, _, _, _, _, _, _⟩, ⟨_, _, _, _, _, _⟩, ⟨_, _, _, _, _⟩, ⟨_, _, _, _⟩, ⟨_, _, _⟩, ⟨_, _⟩, _⟩ := hne
    refine d1.step (v := v1) (by
      rw [exec_putIf d1.sel (d1.see s1 (by simp)), exec_putIf d1.sel (d1.see t1 (by simp))]
      rw [exec_putIf d1.sel (d1.see s2 (by simp)), exec_putIf d1.sel (d1.see t2 (by simp))]
      rw [exec_putIf d1.sel (d1.see s3 (by simp)), exec_putIf d1.sel (d1.see t3 (by simp))]
      rw [exec_putIf d1.sel (d1.see s4 (by simp)), exec_putIf d1.sel (d1.see t4 (by simp))]
      exact e1) ⟨hS, ?_⟩
    rw [putIf_0, putIf_0]
    have hc := c1 j k l hj hk hl
    refine tkL0 (i := m1) (v := u1) hc.1 y1.at_ (by unfold Region.wanted; rw [y1.gd]) (fun W hW => ?_) (fun c a w => hQ c _ _ w) hS ?_
    · rw [putIf_put (t := s2) (by first | assumption | exact Ne.symm (by assumption)), putIf_put (t := t2) (by first | assumption | exact Ne.symm (by assumption)), exec_putIf y1.sel (y1.see s2 (by simp)), exec_putIf y1.sel (y1.see t2 (by simp))]
      rw [putIf_put (t := s3) (by first | assumption | exact Ne.symm (by assumption)), putIf_put (t := t3) (by first | assumption | exact Ne.symm (by assumption)), exec_putIf y1.sel (y1.see s3 (by simp)), exec_putIf y1.sel (y1.see t3 (by simp))]
      rw [putIf_put (t := s4) (by first | assumption | exact Ne.symm (by assumption)), putIf_put (t := t4) (by first | assumption | exact Ne.symm (by assumption)), exec_putIf y1.sel (y1.see s4 (by simp)), exec_putIf y1.sel (y1.see t4 (by simp))]
      exact g1 W hW
    · rw [hc.2, y1.dst]
      exact f1 rfl
  · have hne := nd
    simp only [List.nodup_cons, List.mem_cons, List.not_mem_nil, or_false, not_or, not_false_eq_true, List.nodup_nil, and_true] at hne
    obtain ⟨⟨_, _, _, _, _, _, _⟩, ⟨_, _, _, _, _, _⟩, ⟨_, _, _, _, _⟩, ⟨_, _, _, _⟩, ⟨_, _, _⟩, ⟨_, _⟩, _⟩ := hne
    refine d2.step (v := v2) (by
      rw [exec_putIf d2.sel (d2.see s1 (by simp)), exec_putIf d2.sel (d2.see t1 (by simp))]
      rw [exec_putIf d2.sel (d2.see s2 (by simp)), exec_putIf d2.sel (d2.see t2 (by simp))]
      rw [exec_putIf d2.sel (d2.see s3 (by simp)), exec_putIf d2.sel (d2.see t3 (by simp))]
      rw [exec_putIf d2.sel (d2.see s4 (by simp)), exec_putIf d2.sel (d2.see t4 (by simp))]
      exact e2) ⟨hS, ?_⟩
    rw [putIf_put (t := s1) (t' := t2) (by first | assumption | exact Ne.symm (by assumption)), putIf_put (t := t1) (t' := t2) (by first | assumption | exact Ne.symm (by assumption))]
    rw [putIf_0, putIf_0]
    have hc := c2 i k l hi hk hl
    refine tkL0 (i := m2) (v := u2) hc.1 y2.at_ (by unfold Region.wanted; rw [y2.gd]) (fun W hW => ?_) (fun c a w => hQ c _ _ w) hS ?_
    · rw [exec_putIf y2.sel (y2.see s1 (by simp)), exec_putIf y2.sel (y2.see t1 (by simp))]
      rw [putIf_put (t := s3) (by first | assumption | exact Ne.symm (by assumption)), putIf_put (t := t3) (by first | assumption | exact Ne.symm (by assumption)), exec_putIf y2.sel (y2.see s3 (by simp)), exec_putIf y2.sel (y2.see t3 (by simp))]
      rw [putIf_put (t := s4) (by first | assumption | exact Ne.symm (by assumption)), putIf_put (t := t4) (by first | assumption | exact Ne.symm (by assumption)), exec_putIf y2.sel (y2.see s4 (by simp)), exec_putIf y2.sel (y2.see t4 (by simp))]
      exact g2 W hW
    · rw [hc.2, y2.dst]
      rw [putIf_put (t := s1) (t' := s2) (by first | assumption | exact Ne.symm (by assumption)), putIf_put (t := t1) (t' := s2) (by first | assumption | exact Ne.symm (by assumption))]
      exact f2 rfl
  · have hne := nd
    simp only [List.nodup_cons, List.mem_cons, List.not_mem_nil, or_false, not_or, not_false_eq_true, List.nodup_nil, and_true] at hne
    obtain ⟨⟨_, _, _, _, _, _, _⟩, ⟨_, _, _, _, _, _⟩, ⟨_, _, _, _, _⟩, ⟨_, _, _, _⟩, ⟨_, _, _⟩, ⟨_, _⟩, _⟩ := hne
    refine d3.step (v := v3) (by
      rw [exec_putIf d3.sel (d3.see s1 (by simp)), exec_putIf d3.sel (d3.see t1 (by simp))]
      rw [exec_putIf d3.sel (d3.see s2 (by simp)), exec_putIf d3.sel (d3.see t2 (by simp))]
      rw [exec_putIf d3.sel (d3.see s3 (by simp)), exec_putIf d3.sel (d3.see t3 (by simp))]
      rw [exec_putIf d3.sel (d3.see s4 (by simp)), exec_putIf d3.sel (d3.see t4 (by simp))]
      exact e3) ⟨hS, ?_⟩
    rw [putIf_put (t := s1) (t' := t3) (by first | assumption | exact Ne.symm (by assumption)), putIf_put (t := t1) (t' := t3) (by first | assumption | exact Ne.symm (by assumption)), putIf_put (t := s2) (t' := t3) (by first | assumption | exact Ne.symm (by assumption)), putIf_put (t := t2) (t' := t3) (by first | assumption | exact Ne.symm (by assumption))]
    rw [putIf_0, putIf_0]
    have hc := c3 i j l hi hj hl
    refine tkL0 (i := m3) (v := u3) hc.1 y3.at_ (by unfold Region.wanted; rw [y3.gd]) (fun W hW => ?_) (fun c a w => hQ c _ _ w) hS ?_
    · rw [exec_putIf y3.sel (y3.see s1 (by simp)), exec_putIf y3.sel (y3.see t1 (by simp))]
      rw [exec_putIf y3.sel (y3.see s2 (by simp)), exec_putIf y3.sel (y3.see t2 (by simp))]
      rw [putIf_put (t := s4) (by first | assumption | exact Ne.symm (by assumption)), putIf_put (t := t4) (by first | assumption | exact Ne.symm (by assumption)), exec_putIf y3.sel (y3.see s4 (by simp)), exec_putIf y3.sel (y3.see t4 (by simp))]
      exact g3 W hW
    · rw [hc.2, y3.dst]
      rw [putIf_put (t := s1) (t' := s3) (by first | assumption | exact Ne.symm (by assumption)), putIf_put (t := t1) (t' := s3) (by first | assumption | exact Ne.symm (by assumption)), putIf_put (t := s2) (t' := s3) (by first | assumption | exact Ne.symm (by assumption)), putIf_put (t := t2) (t' := s3) (by first | assumption | exact Ne.symm (by assumption))]
      exact f3 rfl
  · have hne := nd
    simp only [List.nodup_cons, List.mem_cons, List.not_mem_nil, or_false, not_or, not_false_eq_true, List.nodup_nil, and_true] at hne
    obtain ⟨⟨_, _, _, _, _, _, _⟩, ⟨_, _, _, _, _, _⟩, ⟨_, _, _, _, _⟩, ⟨_, _, _, _⟩, ⟨_, _, _⟩, ⟨_, _⟩, _⟩ := hne
    refine d4.step (v := v4) (by
      rw [exec_putIf d4.sel (d4.see s1 (by simp)), exec_putIf d4.sel (d4.see t1 (by simp))]
      rw [exec_putIf d4.sel (d4.see s2 (by simp)), exec_putIf d4.sel (d4.see t2 (by simp))]
      rw [exec_putIf d4.sel (d4.see s3 (by simp)), exec_putIf d4.sel (d4.see t3 (by simp))]
      rw [exec_putIf d4.sel (d4.see s4 (by simp)), exec_putIf d4.sel (d4.see t4 (by simp))]
      exact e4) ⟨hS, ?_⟩
    rw [putIf_put (t := s1) (t' := t4) (by first | assumption | exact Ne.symm (by assumption)), putIf_put (t := t1) (t' := t4) (by first | assumption | exact Ne.symm (by assumption)), putIf_put (t := s2) (t' := t4) (by first | assumption | exact Ne.symm (by assumption)), putIf_put (t := t2) (t' := t4) (by first | assumption | exact Ne.symm (by assumption)), putIf_put (t := s3) (t' := t4) (by first | assumption | exact Ne.symm (by assumption)), putIf_put (t := t3) (t' := t4) (by first | assumption | exact Ne.symm (by assumption))]
    rw [putIf_0, putIf_0]
    have hc := c4 i j k hi hj hk
    refine tkL0 (i := m4) (v := u4) hc.1 y4.at_ (by unfold Region.wanted; rw [y4.gd]) (fun W hW => ?_) (fun c a w => hQ c _ _ w) hS ?_
    · rw [exec_putIf y4.sel (y4.see s1 (by simp)), exec_putIf y4.sel (y4.see t1 (by simp))]
      rw [exec_putIf y4.sel (y4.see s2 (by simp)), exec_putIf y4.sel (y4.see t2 (by simp))]
      rw [exec_putIf y4.sel (y4.see s3 (by simp)), exec_putIf y4.sel (y4.see t3 (by simp))]
      exact g4 W hW
    · rw [hc.2, y4.dst]
      rw [putIf_put (t := s1) (t' := s4) (by first | assumption | exact Ne.symm (by assumption)), putIf_put (t := t1) (t' := s4) (by first | assumption | exact Ne.symm (by assumption)), putIf_put (t := s2) (t' := s4) (by first | assumption | exact Ne.symm (by assumption)), putIf_put (t := t2) (t' := s4) (by first | assumption | exact Ne.symm (by assumption)), putIf_put (t := s3) (t' := s4) (by first | assumption | exact Ne.symm (by assumption)), putIf_put (t := t3) (t' := s4) (by first | assumption | exact Ne.symm (by assumption))]
      exact f4 rfl
theorem st3 {F : Nat → Nat → Nat → Nat → Prop} (f : F 0 1 1 1) (h : ∀ r i j k, i ≤ 1 → j ≤ 1 → k ≤ 1 → r + 1 + (i + j + k) = 3 → (i = 0 → F r 1 j k) → (j = 0 → F r i 1 k) → (k = 0 → F r i j 1) → F (r + 1) i j k) : ∀ r i j k, i ≤ 1 → j ≤ 1 → k ≤ 1 → r + (i + j + k) = 3 → F r i j k
  | 0, i, j, k, hi, hj, hk, hr => by
    obtain rfl : i = 1 := by omega
    obtain rfl : j = 1 := by omega
    obtain rfl : k = 1 := by omega
    exact f
  | r + 1, i, j, k, hi, hj, hk, hr => h r i j k hi hj hk hr (fun e => st3 f h r 1 j k (by decide) hj hk (by omega)) (fun e => st3 f h r i 1 k hi (by decide) hk (by omega)) (fun e => st3 f h r i j 1 hi hj (by decide) (by omega))
def rd3B (md : Region.Mode) (ops : Array Oper) (i1 i2 i3 : Nat) (L : Nat → Nat → Nat → Nat → Array Bool) : Bool :=
  (List.range 2).all fun i => (List.range 2).all fun j => (List.range 2).all fun k => decide (3 ≤ i + j + k) ||
    (!(Region.ready md ops (L i j k 0)).isEmpty && (Region.ready md ops (L i j k 0)).all fun o => (i == 0 && o == i1) || (j == 0 && o == i2) || (k == 0 && o == i3))
set_option maxHeartbeats 4000000 in
theorem loads3m {i1 i2 i3 m1 m2 m3 t1 t2 t3 s1 s2 s3 fuel : Nat} {o1 o2 o3 q1 q2 q3 : Oper} {v1 v2 v3 u1 u2 u3 : Value} {x : Act} {w : World} (L : Nat → Nat → Nat → Nat → Array Bool)
    (d1 : Ld ops i1 o1 t1 [t1, s1, t2, s2, t3, s3]) (y1 : Mx ops m1 q1 s1 [t2, s2, t3, s3])
    (d2 : Ld ops i2 o2 t2 [t1, s1, t2, s2, t3, s3]) (y2 : Mx ops m2 q2 s2 [t1, s1, t3, s3])
    (d3 : Ld ops i3 o3 t3 [t1, s1, t2, s2, t3, s3]) (y3 : Mx ops m3 q3 s3 [t1, s1, t2, s2])
    (nd : [t1, s1, t2, s2, t3, s3].Nodup) (hr : rd3B md ops i1 i2 i3 L = true)
    (c1 : ∀ j k, j ≤ 1 → k ≤ 1 → Tk md ops ((L 0 j k 0).setIfInBounds i1 true) m1 ∧ ((L 0 j k 0).setIfInBounds i1 true).setIfInBounds m1 true = L 1 j k 0)
    (c2 : ∀ i k, i ≤ 1 → k ≤ 1 → Tk md ops ((L i 0 k 0).setIfInBounds i2 true) m2 ∧ ((L i 0 k 0).setIfInBounds i2 true).setIfInBounds m2 true = L i 1 k 0)
    (c3 : ∀ i j, i ≤ 1 → j ≤ 1 → Tk md ops ((L i j 0 0).setIfInBounds i3 true) m3 ∧ ((L i j 0 0).setIfInBounds i3 true).setIfInBounds m3 true = L i j 1 0)
    (e1 : (execOp x.eval o1).run P w = .ok (.value v1) w) (g1 : ∀ W, S W → (execOp (x.put (some t1) v1).eval q1).run P W = .ok (.value u1) W)
    (e2 : (execOp x.eval o2).run P w = .ok (.value v2) w) (g2 : ∀ W, S W → (execOp (x.put (some t2) v2).eval q2).run P W = .ok (.value u2) W)
    (e3 : (execOp x.eval o3).run P w = .ok (.value v3) w) (g3 : ∀ W, S W → (execOp (x.put (some t3) v3).eval q3).run P W = .ok (.value u3) W)
    (hQ : ∀ c a a' w, Q (.panic c) a w → Q (.panic c) a' w) (hS : S w) (fin : wpAnyH P md ops Q S fuel (L 1 1 1 0) (putIf 1 s1 u1 (putIf 1 t1 v1 (putIf 1 s2 u2 (putIf 1 t2 v2 (putIf 1 s3 u3 (putIf 1 t3 v3 x)))))) w) : wpAnyH P md ops Q S (fuel + 6) (L 0 0 0 0) x w := by
  refine st3 (F := fun r i j k => wpAnyH P md ops Q S (fuel + 2 * r) (L i j k 0) (putIf i s1 u1 (putIf i t1 v1 (putIf j s2 u2 (putIf j t2 v2 (putIf k s3 u3 (putIf k t3 v3 x)))))) w) fin ?_ 3 0 0 0 (by decide) (by decide) (by decide) rfl
  intro r i j k hi hj hk hrr f1 f2 f3
  have hr' := hr
  unfold rd3B at hr'
  have hr1 := List.all_eq_true.1 (List.all_eq_true.1 (List.all_eq_true.1 hr' i (List.mem_range.2 (by omega))) j (List.mem_range.2 (by omega))) k (List.mem_range.2 (by omega))
  rw [decide_eq_false (show ¬ 3 ≤ i + j + k by omega), Bool.false_or, Bool.and_eq_true] at hr1
  have hne2 : Region.ready md ops (L i j k 0) ≠ [] := fun e => by rw [e] at hr1; cases hr1.1
  have hrd : ∀ o ∈ Region.ready md ops (L i j k 0), (i = 0 ∧ o = i1) ∨ (j = 0 ∧ o = i2) ∨ (k = 0 ∧ o = i3) := fun o ho => by
    have := List.all_eq_true.1 hr1.2 o ho
    simpa [Bool.or_eq_true, Bool.and_eq_true, or_assoc] using this
  show wpAnyH P md ops Q S ((fuel + 2 * r + 1) + 1) _ _ _
  refine wpAnyH_ready (rs := Region.ready md ops (L i j k 0)) rfl hne2 ?_
  intro o ho
  rcases hrd o ho with ⟨rfl, rfl⟩ | ⟨rfl, rfl⟩ | ⟨rfl, rfl⟩
  · have hne := nd
    simp only [List.nodup_cons, List.mem_cons, List.not_mem_nil, or_false, not_or, not_false_eq_true, List.nodup_nil, and_true] at hne
    obtain ⟨⟨_, _, _, _, _⟩, ⟨_, _, _, _⟩, ⟨_, _, _⟩, ⟨_, _⟩, _⟩ := hne
    refine d1.step (v := v1) (by
      rw [exec_putIf d1.sel (d1.see s1 (by simp)), exec_putIf d1.sel (d1.see t1 (by simp))]
      rw [exec_putIf d1.sel (d1.see s2 (by simp)), exec_putIf d1.sel (d1.see t2 (by simp))]
      rw [exec_putIf d1.sel (d1.see s3 (by simp)), exec_putIf d1.sel (d1.see t3 (by simp))]
      exact e1) ⟨hS, ?_⟩
    rw [putIf_0, putIf_0]
    have hc := c1 j k hj hk
    refine tkL0 (i := m1) (v := u1) hc.1 y1.at_ (by unfold Region.wanted; rw [y1.gd]) (fun W hW => ?_) (fun c a w => hQ c _ _ w) hS ?_
    · rw [putIf_put (t := s2) (by first | assumption | exact Ne.symm (by assumption)), putIf_put (t := t2) (by first | assumption | exact Ne.symm (by assumption)), exec_putIf y1.sel (y1.see s2 (by simp)), exec_putIf y1.sel (y1.see t2 (by simp))]
      rw [putIf_put (t := s3) (by first | assumption | exact Ne.symm (by assumption)), putIf_put (t := t3) (by first | assumption | exact Ne.symm (by assumption)), exec_putIf y1.sel (y1.see s3 (by simp)), exec_putIf y1.sel (y1.see t3 (by simp))]
      exact g1 W hW
    · rw [hc.2, y1.dst]
      exact f1 rfl
  · have hne := nd
    simp only [List.nodup_cons, List.mem_cons, List.not_mem_nil, or_false, not_or, not_false_eq_true, List.nodup_nil, and_true] at hne
    obtain ⟨⟨_, _, _, _, _⟩, ⟨_, _, _, _⟩, ⟨_, _, _⟩, ⟨_, _⟩, _⟩ := hne
    refine d2.step (v := v2) (by
      rw [exec_putIf d2.sel (d2.see s1 (by simp)), exec_putIf d2.sel (d2.see t1 (by simp))]
      rw [exec_putIf d2.sel (d2.see s2 (by simp)), exec_putIf d2.sel (d2.see t2 (by simp))]
      rw [exec_putIf d2.sel (d2.see s3 (by simp)), exec_putIf d2.sel (d2.see t3 (by simp))]
      exact e2) ⟨hS, ?_⟩
    rw [putIf_put (t := s1) (t' := t2) (by first | assumption | exact Ne.symm (by assumption)), putIf_put (t := t1) (t' := t2) (by first | assumption | exact Ne.symm (by assumption))]
    rw [putIf_0, putIf_0]
    have hc := c2 i k hi hk
    refine tkL0 (i := m2) (v := u2) hc.1 y2.at_ (by unfold Region.wanted; rw [y2.gd]) (fun W hW => ?_) (fun c a w => hQ c _ _ w) hS ?_
    · rw [exec_putIf y2.sel (y2.see s1 (by simp)), exec_putIf y2.sel (y2.see t1 (by simp))]
      rw [putIf_put (t := s3) (by first | assumption | exact Ne.symm (by assumption)), putIf_put (t := t3) (by first | assumption | exact Ne.symm (by assumption)), exec_putIf y2.sel (y2.see s3 (by simp)), exec_putIf y2.sel (y2.see t3 (by simp))]
      exact g2 W hW
    · rw [hc.2, y2.dst]
      rw [putIf_put (t := s1) (t' := s2) (by first | assumption | exact Ne.symm (by assumption)), putIf_put (t := t1) (t' := s2) (by first | assumption | exact Ne.symm (by assumption))]
      exact f2 rfl
  · have hne := nd
    simp only [List.nodup_cons, List.mem_cons, List.not_mem_nil, or_false, not_or, not_false_eq_true, List.nodup_nil, and_true] at hne
    obtain ⟨⟨_, _, _, _, _⟩, ⟨_, _, _, _⟩, ⟨_, _, _⟩, ⟨_, _⟩, _⟩ := hne
    refine d3.step (v := v3) (by
      rw [exec_putIf d3.sel (d3.see s1 (by simp)), exec_putIf d3.sel (d3.see t1 (by simp))]
      rw [exec_putIf d3.sel (d3.see s2 (by simp)), exec_putIf d3.sel (d3.see t2 (by simp))]
      rw [exec_putIf d3.sel (d3.see s3 (by simp)), exec_putIf d3.sel (d3.see t3 (by simp))]
      exact e3) ⟨hS, ?_⟩
    rw [putIf_put (t := s1) (t' := t3) (by first | assumption | exact Ne.symm (by assumption)), putIf_put (t := t1) (t' := t3) (by first | assumption | exact Ne.symm (by assumption)), putIf_put (t := s2) (t' := t3) (by first | assumption | exact Ne.symm (by assumption)), putIf_put (t := t2) (t' := t3) (by first | assumption | exact Ne.symm (by assumption))]
    rw [putIf_0, putIf_0]
    have hc := c3 i j hi hj
    refine tkL0 (i := m3) (v := u3) hc.1 y3.at_ (by unfold Region.wanted; rw [y3.gd]) (fun W hW => ?_) (fun c a w => hQ c _ _ w) hS ?_
    · rw [exec_putIf y3.sel (y3.see s1 (by simp)), exec_putIf y3.sel (y3.see t1 (by simp))]
      rw [exec_putIf y3.sel (y3.see s2 (by simp)), exec_putIf y3.sel (y3.see t2 (by simp))]
      exact g3 W hW
    · rw [hc.2, y3.dst]
      rw [putIf_put (t := s1) (t' := s3) (by first | assumption | exact Ne.symm (by assumption)), putIf_put (t := t1) (t' := s3) (by first | assumption | exact Ne.symm (by assumption)), putIf_put (t := s2) (t' := s3) (by first | assumption | exact Ne.symm (by assumption)), putIf_put (t := t2) (t' := s3) (by first | assumption | exact Ne.symm (by assumption))]
      exact f3 rfl
end
end Go.Proofs.Ytoinjnocopejjaa
