/- Told and read, there and back; sizes of what is not too long, not too wide. -/
import Derived.Test.YtkgdmdcnhbaidaaDoorY2
namespace Go.Proofs.YtkgdmdcnhbaidaaDoor
open Go.ChangeShapes Go.WideShapes Go.ChangeAt Go.RowKit
set_option linter.unusedVariables false
set_option linter.unusedSimpArgs false

theorem prR_pw : ∀ ps : List Pr, prR (pw ps, false) = (ps, ([], false))
  | [] => rfl
  | p :: l => by
    have h1 : txtR true (pw (p :: l), false) = (p.1, (hexP p.2 :: pw l, false)) := txtR_opt true p.1 (hexP p.2 :: pw l)
    have h2 : txtR true (hexP p.2 :: pw l, false) = (p.2, (pw l, false)) := txtR_opt true p.2 (pw l)
    rw [prR_yes (by rfl), h1]
    simp only
    rw [h2, prR_pw l]
theorem prR_back : ∀ (k : Nat) (r : Rd_), r.1.length ≤ k → (prR r).2.2 = false → r = (pw (prR r).1, false)
  | k, r, hk, h => by
    cases hg : goR r with
    | false =>
      rw [prR_no hg] at h ⊢
      obtain ⟨ws, b⟩ := r
      have hb : b = false := h
      subst hb
      unfold goR overR at hg
      cases ws with
      | nil => rfl
      | cons a l => simp at hg
    | true =>
      have hl := txtR_len (r := r) hg
      have hl2 := txtR_le (r := (txtR true r).2)
      rw [prR_yes hg] at h ⊢
      cases k with
      | zero => omega
      | succ k =>
        have ih := prR_back k (txtR true (txtR true r).2).2 (by omega) h
        have b2 := txtR_back (b := true) (r := (txtR true r).2) (l := pw (prR (txtR true (txtR true r).2).2).1) ih
        have b1 := txtR_back (b := true) (r := r) b2.1
        exact b1.1
theorem tell_nsp (er : Int) (fo : Bool) (va : ByteArray) (ps : List Pr) : ∀ w ∈ tellL er fo va ps, nsp w := by
  have hp : ∀ (l : List Pr), ∀ w ∈ pw l, nsp w := fun l => by
    induction l with
    | nil => intro w hw; cases hw
    | cons p l ih =>
      intro w hw
      rcases List.mem_cons.1 hw with rfl | hw
      · exact hex_nsp _
      · rcases List.mem_cons.1 hw with rfl | hw
        · exact hex_nsp _
        · exact ih w hw
  intro w hw
  rcases List.mem_append.1 (show w ∈ [ofL (Lib.itoa er), fwd fo, hexP va] ++ pw ps from hw) with hw | hw
  · simp only [List.mem_cons, List.mem_nil_iff, or_false] at hw
    rcases hw with rfl | rfl | rfl
    · exact itoa_nsp _
    · cases fo
      · show (32 : UInt8) ∉ [48]; decide
      · show (32 : UInt8) ∉ [49]; decide
    · exact hex_nsp _
  · exact hp ps w hw
def telT (a : As) : ByteArray := joinW (tellL a.1 a.2.1 a.2.2.1 a.2.2.2)
theorem read_tell (a : As) (h : -9223372036854775808 ≤ a.1 ∧ a.1 ≤ 9223372036854775807) : okA (telT a) = true ∧ asP (telT a) = a := by
  obtain ⟨er, fo, va, ps⟩ := a
  have hw : wordsOf (telT (er, fo, va, ps)) = ofL (Lib.itoa er) :: fwd fo :: hexP va :: pw ps := words_joinW (by simp [tellL]) (tell_nsp er fo va ps)
  generalize telT (er, fo, va, ps) = s at hw
  have a1 : ra1 s = (er, (fwd fo :: hexP va :: pw ps, false)) := by unfold ra1; rw [hw]; exact numR_opt true (fwd fo :: hexP va :: pw ps) h
  have a2 : ra2 s = (fwd fo, (hexP va :: pw ps, false)) := by unfold ra2; rw [a1]; rfl
  have a3 : ra3 s = (va, (pw ps, false)) := by unfold ra3; rw [a2]; exact txtR_opt true va (pw ps)
  have a4 : ra4 s = (ps, ([], false)) := by unfold ra4; rw [a3]; exact prR_pw ps
  have hd : decide (fwd fo = { data := #[49] }) = fo := by cases fo <;> decide
  have ho : okA s = true := by
    unfold okA
    rw [a4, a2]
    show (true && (decide (fwd fo = { data := #[48] }) || decide (fwd fo = { data := #[49] }))) = true
    cases fo <;> decide
  refine ⟨ho, ?_⟩
  unfold asP
  rw [ho, a1, a2, a3, a4]
  simp only [if_true]
  rw [hd]
theorem ok_back {s : ByteArray} (h : okA s = true) : wordsOf s = tellL (asP s).1 (asP s).2.1 (asP s).2.2.1 (asP s).2.2.2 ∧ (-9223372036854775808 ≤ (asP s).1 ∧ (asP s).1 ≤ 9223372036854775807) := by
  have he : asP s = ((ra1 s).1, decide ((ra2 s).1 = { data := #[49] }), (ra3 s).1, (ra4 s).1) := by unfold asP; rw [if_pos h]
  unfold okA at h
  rw [Bool.and_eq_true, Bool.or_eq_true] at h
  obtain ⟨h1, h2⟩ := h
  have h1' : (ra4 s).2.2 = false := by simpa using h1
  have h1 : (prR (ra3 s).2).2.2 = false := h1'
  have b4 := prR_back _ (ra3 s).2 (Nat.le_refl _) h1
  have b3 := (txtR_back (b := true) (r := (ra2 s).2) b4).1
  have b2 := nextR_back (r := (ra1 s).2) b3
  obtain ⟨b1, _, g1⟩ := numR_back (b := true) (r := (wordsOf s, false)) b2
  have hf : (ra2 s).1 = fwd (decide ((ra2 s).1 = { data := #[49] })) := by
    rcases h2 with h2 | h2
    · have e := of_decide_eq_true h2
      rw [e]; decide
    · have e := of_decide_eq_true h2
      rw [e]; decide
  rw [he]
  refine ⟨?_, g1⟩
  have e := congrArg (·.1) b1
  simp only at e
  rw [e]
  show ofL (Lib.itoa (ra1 s).1) :: (nextR (ra1 s).2).1 :: hexP (ra3 s).1 :: pw (ra4 s).1 = ofL (Lib.itoa (ra1 s).1) :: fwd (decide ((ra2 s).1 = { data := #[49] })) :: hexP (ra3 s).1 :: pw (ra4 s).1
  rw [← hf]; rfl
theorem tell_read {s : ByteArray} (h : okA s = true) : telT (asP s) = s := by
  unfold telT
  rw [← (ok_back h).1, joinW_words]
theorem not_both {s : ByteArray} (h : okP s = true) : okA s = false := by
  cases ha : okA s with
  | false => rfl
  | true =>
    exfalso
    have h1 := (parse_back h).1
    have h2 := (ok_back ha).1
    rw [h1] at h2
    unfold showL at h2
    rw [showN_eq] at h2
    have h3 : wdL.getD (clP s).1 emp = ofL (Lib.itoa (asP s).1) := (List.cons.inj h2).1
    have h4 := word_num ⟨(clP s).1, (may_rg (parse_back h).2.1).2⟩
    have h5 := num_itoa (ok_back ha).2
    rw [← h3] at h5
    rw [h4] at h5
    cases h5
/-! sizes -/
theorem mem_split {s w : ByteArray} (h : w ∈ wordsOf s) : w.size ≤ s.size := split_sz sp 0 _ s w h
theorem clP_ok {s : ByteArray} (h : okP s = true) (hs : s.size ≤ 9000) : ClOk (clP s) := by
  obtain ⟨hw, hm, hc, g1, g5, g6⟩ := parse_back h
  have hz : ∀ w ∈ showL (clP s), w.size ≤ 9000 := fun w h => by
    rw [← hw] at h
    have := mem_split h; omega
  unfold showL at hz
  rw [showN_eq] at hz
  have hopt : ∀ (b : Bool) (x : ByteArray) (l : List ByteArray) (P : ByteArray → Prop), (∀ w ∈ opt b x l, P w) → (b = true → P x) ∧ ∀ w ∈ l, P w := fun b x l P h => by
    cases b
    · exact ⟨(fun h => by cases h), h⟩
    · exact ⟨fun _ => h x (List.mem_cons_self ..), fun w hw => h w (List.mem_cons_of_mem _ hw)⟩
  have z1 := (hopt _ _ _ (fun w => w.size ≤ 9000) (fun w hw => hz w (List.mem_cons_of_mem _ hw))).2
  obtain ⟨k2, z2⟩ := hopt _ _ _ (fun w => w.size ≤ 9000) z1
  obtain ⟨k3, z3⟩ := hopt _ _ _ (fun w => w.size ≤ 9000) z2
  obtain ⟨k4, z4⟩ := hopt _ _ _ (fun w => w.size ≤ 9000) z3
  have e : ∀ (b : Bool) (t : ByteArray), (b = true → (hexP t).size ≤ 9000) → (b = false → t = emp) → t.size ≤ 100000 := fun b t h1 h2 => by
    cases b
    · rw [h2 rfl]; show (0 : Nat) ≤ _; omega
    · have := h1 rfl; have := (hexP_size t).2; omega
  have hcl : ∀ x : Cl, clnC x = x → ((nmK x.1).2.1 = false → x.2.2.1 = emp) ∧ ((nmK x.1).2.2.1 = false → x.2.2.2.1 = emp) ∧ ((nmK x.1).2.2.2.1 = false → x.2.2.2.2.1 = emp) := fun x hx => by
    unfold clnC clnN at hx
    have f2 := congrArg (fun z : Cl => z.2.2.1) hx
    have f3 := congrArg (fun z : Cl => z.2.2.2.1) hx
    have f4 := congrArg (fun z : Cl => z.2.2.2.2.1) hx
    simp only at f2 f3 f4
    exact ⟨fun h => by rw [h] at f2; exact f2.symm, fun h => by rw [h] at f3; exact f3.symm, fun h => by rw [h] at f4; exact f4.symm⟩
  obtain ⟨c2, c3, c4⟩ := hcl _ hc
  exact ⟨by have := (may_rg hm).2; omega, g6, g1, g5, e _ _ k2 c2, e _ _ k3 c3, e _ _ k4 c4⟩
theorem pw_mem {l : List Pr} {p : Pr} (h : p ∈ l) : hexP p.1 ∈ pw l ∧ hexP p.2 ∈ pw l := by
  induction l with
  | nil => cases h
  | cons q l ih =>
    rcases List.mem_cons.1 h with rfl | h
    · exact ⟨List.mem_cons_self .., List.mem_cons_of_mem _ (List.mem_cons_self ..)⟩
    · exact ⟨List.mem_cons_of_mem _ (List.mem_cons_of_mem _ (ih h).1), List.mem_cons_of_mem _ (List.mem_cons_of_mem _ (ih h).2)⟩
/-- an answer that may be told -/
def AsOk (a : As) : Prop := (-9223372036854775808 ≤ a.1 ∧ a.1 ≤ 9223372036854775807) ∧ a.2.2.1.size ≤ 100000 ∧ (∀ p ∈ a.2.2.2, p.1.size ≤ 100000 ∧ p.2.size ≤ 100000) ∧ a.2.2.2.length ≤ 100000 ∧ (telT a).size ≤ 100000
theorem asP_ok {s : ByteArray} (h : okA s = true) (hs : s.size ≤ 9000) : AsOk (asP s) := by
  obtain ⟨hw, g1⟩ := ok_back h
  have ht := tell_read h
  have hz : ∀ w ∈ tellL (asP s).1 (asP s).2.1 (asP s).2.2.1 (asP s).2.2.2, w.size ≤ 9000 := fun w h => by
    rw [← hw] at h
    have := mem_split h; omega
  have hx : ∀ t : ByteArray, hexP t ∈ tellL (asP s).1 (asP s).2.1 (asP s).2.2.1 (asP s).2.2.2 → t.size ≤ 100000 := fun t h => by
    have h1 := hz _ h
    have h2 := (hexP_size t).2
    omega
  have hl : (asP s).2.2.2.length ≤ 100000 := by
    have h1 := words_len s
    rw [hw] at h1
    have h2 : (tellL (asP s).1 (asP s).2.1 (asP s).2.2.1 (asP s).2.2.2).length = 3 + 2 * (asP s).2.2.2.length := by
      unfold tellL
      rw [List.length_append, pw_len]; rfl
    have h3 := Lib.countB_le sp (by decide) s.size s (Nat.le_refl _)
    omega
  refine ⟨g1, hx _ (by unfold tellL; simp), fun p hp => ?_, hl, by rw [ht]; omega⟩
  have hm := pw_mem hp
  exact ⟨hx _ (List.mem_append_right _ hm.1), hx _ (List.mem_append_right _ hm.2)⟩
theorem mn_lt {s : ByteArray} (h : mn s < 9000) : mn s = (s.size : Int) ∧ s.size < 9000 := by unfold mn at h ⊢; omega
theorem lg_ok {x : Cl} {l : List Cl} (h : lgS l < 9000) (hx : x ∈ l) : x.2.2.1.size < 9000 ∧ x.2.2.2.1.size < 9000 ∧ x.2.2.2.2.1.size < 9000 := by
  induction l with
  | nil => cases hx
  | cons y l ih =>
    have h1 : lg1 y + lgS l < 9000 := h
    have hb := (lgS_b l).1
    have hy := (lg1_b y).1
    rcases List.mem_cons.1 hx with rfl | hx
    · have a := mn_b x.2.2.1
      have b := mn_b x.2.2.2.1
      have c := mn_b x.2.2.2.2.1
      unfold lg1 at h1
      exact ⟨(mn_lt (by omega)).2, (mn_lt (by omega)).2, (mn_lt (by omega)).2⟩
    · exact ih (by omega) hx
theorem cl_ok {x : Cl} {l : List Cl} (hx : x.1 ≤ 255 ∧ x.2.2.2.2.2.2 ≤ 255 ∧ (-9223372036854775808 ≤ x.2.1 ∧ x.2.1 ≤ 9223372036854775807) ∧ (-9223372036854775808 ≤ x.2.2.2.2.2.1 ∧ x.2.2.2.2.2.1 ≤ 9223372036854775807)) (h : lgS l < 9000) (hm : x ∈ l) : ClOk x ∧ (joinW (showL x)).size ≤ 90000 := by
  have a := lg_ok h hm
  refine ⟨⟨hx.1, hx.2.1, hx.2.2.1, hx.2.2.2, by omega, by omega, by omega⟩, ?_⟩
  have := show_size hx.2.2.1 hx.2.2.2 hx.2.1
  omega
/-- the bulk of pairs -/
def plk (l : List Pr) : Int := (l.map (fun p => 10 + mn p.1 + mn p.2)).sum
theorem wdP_lt : ∀ (l : List Pr) (x : Int), 0 ≤ x → wdP x l < 9000 → wdP x l = x + plk l ∧ x < 9000
  | [], x, _, h => ⟨by show x = x + 0; omega, h⟩
  | p :: l, x, h0, h => by
    have h1 := mn_b p.1
    have h2 := mn_b p.2
    by_cases hx : x < 9000
    · rw [wdP, if_pos hx] at h ⊢
      obtain ⟨a, b⟩ := wdP_lt l _ (by omega) h
      refine ⟨?_, hx⟩
      rw [a]
      show _ = x + ((10 + mn p.1 + mn p.2) + plk l)
      omega
    · rw [wdP, if_neg hx] at h; exact absurd h hx
theorem plk_b : ∀ l : List Pr, 0 ≤ plk l ∧ 10 * (l.length : Int) ≤ plk l
  | [] => ⟨Int.le_refl _, Int.le_refl _⟩
  | p :: l => by
    have h1 := mn_b p.1
    have h2 := mn_b p.2
    have ih := plk_b l
    show 0 ≤ (10 + mn p.1 + mn p.2) + plk l ∧ 10 * ((l.length + 1 : Nat) : Int) ≤ (10 + mn p.1 + mn p.2) + plk l
    omega
theorem plk_mem {l : List Pr} {p : Pr} (h : p ∈ l) : 10 + mn p.1 + mn p.2 ≤ plk l := by
  induction l with
  | nil => cases h
  | cons q l ih =>
    have h1 := mn_b q.1
    have h2 := mn_b q.2
    have hb := (plk_b l).1
    show _ ≤ (10 + mn q.1 + mn q.2) + plk l
    rcases List.mem_cons.1 h with rfl | h
    · omega
    · have := ih h; omega
theorem pw_size : ∀ l : List Pr, plk l < 9000 → ((((pw l).length + ((pw l).map (·.size)).sum : Nat)) : Int) ≤ 2 * plk l
  | [], _ => Int.le_refl _
  | p :: l, h => by
    have hb := (plk_b l).1
    have hh : (10 + mn p.1 + mn p.2) + plk l < 9000 := h
    have m1 := mn_b p.1
    have m2 := mn_b p.2
    have h1 := mn_lt (s := p.1) (by omega)
    have h2 := mn_lt (s := p.2) (by omega)
    have ih := pw_size l (by omega)
    have s1 := (hexP_size p.1).1
    have s2 := (hexP_size p.2).1
    show ((((pw l).length + 1 + 1 + ((hexP p.1).size + ((hexP p.2).size + ((pw l).map (·.size)).sum)) : Nat)) : Int) ≤ 2 * ((10 + mn p.1 + mn p.2) + plk l)
    omega
theorem wdS_mono : ∀ (l : List Am) (x : Int), 0 ≤ x → x ≤ wdS x l
  | [], x, _ => Int.le_refl _
  | a :: l, x, h => by
    have h1 := mn_b a.1.2.2.1
    have h2 : x + mn a.1.2.2.1 ≤ wdP (x + mn a.1.2.2.1) a.1.2.2.2 := by
      by_cases hb : wdP (x + mn a.1.2.2.1) a.1.2.2.2 < 9000
      · have := (wdP_lt a.1.2.2.2 _ (by omega) hb).1
        have := (plk_b a.1.2.2.2).1
        omega
      · by_cases hx : x + mn a.1.2.2.1 < 9000
        · omega
        · rw [wdP_big _ hx]; exact Int.le_refl _
    have h3 := wdS_mono l (wdP (x + mn a.1.2.2.1) a.1.2.2.2) (by omega)
    show x ≤ wdS (wdP (x + mn a.1.2.2.1) a.1.2.2.2) l
    omega
theorem wd_lt : ∀ (l : List Am) (x : Int), 0 ≤ x → wdS x l < 9000 → ∀ a ∈ l, mn a.1.2.2.1 + plk a.1.2.2.2 < 9000
  | [], _, _, _, a, h => by cases h
  | b :: l, x, h0, h, a, ha => by
    have h1 := mn_b b.1.2.2.1
    have h2 := wdP_b b.1.2.2.2 (x + mn b.1.2.2.1) (by omega)
    have hh : wdS (wdP (x + mn b.1.2.2.1) b.1.2.2.2) l < 9000 := h
    have h3 := wdS_mono l (wdP (x + mn b.1.2.2.1) b.1.2.2.2) h2.1
    rcases List.mem_cons.1 ha with rfl | ha
    · have := (wdP_lt a.1.2.2.2 _ (by omega) (show wdP (x + mn a.1.2.2.1) a.1.2.2.2 < 9000 by omega)).1
      omega
    · exact wd_lt l _ h2.1 hh a ha
theorem as_ok {a : As} (he : -9223372036854775808 ≤ a.1 ∧ a.1 ≤ 9223372036854775807) (h : mn a.2.2.1 + plk a.2.2.2 < 9000) : AsOk a := by
  have m := mn_b a.2.2.1
  have pb := plk_b a.2.2.2
  have hv := mn_lt (s := a.2.2.1) (by omega)
  have hp := pw_size a.2.2.2 (by omega)
  refine ⟨he, by omega, fun p hp => ?_, by omega, ?_⟩
  · have h1 := plk_mem hp
    have m1 := mn_b p.1
    have m2 := mn_b p.2
    have h2 := mn_lt (s := p.1) (by omega)
    have h3 := mn_lt (s := p.2) (by omega)
    omega
  · have h1 := itoa_size he
    have h2 := (hexP_size a.2.2.1).1
    have h3 : (fwd a.2.1).size = 1 := by cases a.2.1 <;> rfl
    show (joinW (ofL (Lib.itoa a.1) :: fwd a.2.1 :: hexP a.2.2.1 :: pw a.2.2.2)).size ≤ _
    rw [joinW_size]
    simp only [List.map_cons, List.sum_cons, List.length_cons]
    omega
end Go.Proofs.YtkgdmdcnhbaidaaDoor
