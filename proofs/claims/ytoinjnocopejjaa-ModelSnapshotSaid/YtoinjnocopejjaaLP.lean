/- A note, of whatever turn; how long a log gets. -/
import Derived.Test.YtoinjnocopejjaaLL
import Derived.Test.YtoinjnocopejjaaLN
import Derived.Test.YtoinjnocopejjaaLO
namespace Go.Proofs.Ytoinjnocopejjaa
open Go.ChangeShapes Go.WideShapes Go.ChangeAt Go.RowKit Go.Maps
set_option linter.unusedVariables false
set_option linter.unusedSimpArgs false
theorem noteL_I (g : Lg) (at_ t : Int) (x : Cl) (a : As) : noteL g at_ t x a = noteI g at_ t x a (findL g t x.2.1) := rfl
theorem note_any (B p : Nat) (s : MS) (g : Lg) (x : LX) (at_ ta tx li er : Int) (ke en va av : ByteArray) (kn eg n c : Nat) (fo : Bool) (A : Option Addr) (prs : List Pr) (w : World) (h : LgAt w B p g x) (hm : OkM s) (hi : LI s g) (hB : B ≤ w.heap.size)
    (hl : g.lives.length ≤ 1000) (hw : ∀ i, (gl g i).ws.length ≤ 1000) (hf : g.facts.length ≤ 100000) :
    Calls Try.prog 36 #[.pointer (some ⟨p, 0, none⟩), .int .i64 at_, .agg #[.int .i64 ta, .int .u8 (kn : Int), .int .i64 tx, .string ke, .string en, .string va, .int .i64 li, .int .u8 (eg : Int)], .agg #[.int .i64 er, .bool fo, .string av, .slice A n c]] w (NtEnd B p (noteL g at_ ta (kn, tx, ke, en, va, li, eg) (er, fo, av, prs)) w) := by
  have htm : 0 ≤ g.time ∧ g.time ≤ 2000000 := by
    have h1 := hm.clk
    have h2 := may_lo hm.may
    rw [hi.time]; omega
  have hfd := hi.find hm ta tx
  by_cases h0 : er ≠ 0
  · exact note_no B p g x at_ ta tx li er ke en va av kn eg n c fo A prs w h hl hB (.inl h0) (by unfold noteI; rw [if_pos (.inl h0)])
  replace h0 : er = 0 := Decidable.not_not.1 h0
  by_cases h1 : kn = 1
  · exact note_begin B p g x at_ ta tx li er ke en va av kn eg n c fo A prs w h hl hB h0 h1
  rcases hfd with ⟨_, e⟩ | ⟨i, hil, _, e⟩
  · exact note_no B p g x at_ ta tx li er ke en va av kn eg n c fo A prs w h hl hB (.inr ⟨h1, by omega⟩) (by unfold noteI; rw [if_pos (.inr ⟨h1, by omega⟩)])
  · by_cases h3 : kn = 3
    · exact note_put B p g x at_ ta tx li er ke en va av kn eg n c fo A prs w h hl hB h0 h3 i e hil (hw i)
    by_cases h4 : kn = 4 ∧ fo = true
    · exact note_del B p g x at_ ta tx li er ke en va av kn eg n c fo A prs w h hl hB h0 h4.1 h4.2 i e hil (hw i)
    by_cases h6 : kn = 6
    · exact note_commit B p g x at_ ta tx li er ke en va av kn eg n c fo A prs w h hl hB h0 h6 i e hil (hw i) hf htm
    · refine note_other B p g x at_ ta tx li er ke en va av kn eg n c fo A prs w h hl hB h0 h1 h3 ?_ h6 (by omega)
      by_cases h : kn = 4
      · right
        cases fo with
        | false => rfl
        | true => exact absurd ⟨h, rfl⟩ h4
      · exact .inl h
/-- how long what is in a log gets -/
structure SzL (g : Lg) (k : Nat) : Prop where
  l : g.lives.length ≤ k
  w : ∀ i, (gl g i).ws.length ≤ k
  f : g.facts.length ≤ k * k
theorem SzL.zero : SzL lg0 0 := ⟨Nat.le_refl _, fun i => by unfold gl lg0; simp [lf0], Nat.le_refl _⟩
theorem lastFs_len (ts : Int) : ∀ l : List Fc, (lastFs ts l).length ≤ l.length
  | [] => Nat.le_refl _
  | f :: r => by
    have := lastFs_len ts r
    show (if _ then _ else _ : List Fc).length ≤ _
    split
    · rw [List.length_cons, List.length_cons]; omega
    · rw [List.length_cons]; omega
theorem gl_set_len {g : Lg} {i j : Nat} {l : Lf} {k : Nat} (hj : (gl g j).ws.length ≤ k) (hl : l.ws.length ≤ k) {t : Int} {fs : List Fc} : (gl ⟨t, fs, g.lives.set i l⟩ j).ws.length ≤ k := by
  unfold gl at hj ⊢
  simp only [List.getD_eq_getElem?_getD, List.getElem?_set] at hj ⊢
  by_cases e : i = j
  · rw [if_pos e]
    by_cases h : i < g.lives.length
    · rw [if_pos h]; exact hl
    · rw [if_neg h]; exact Nat.zero_le _
  · rw [if_neg e]; exact hj
theorem SzL.note {g : Lg} {k : Nat} (h : SzL g k) (at_ t : Int) (x : Cl) (a : As) : SzL (noteL g at_ t x a) (k + 1) := by
  have h1 := h.l
  have h3 := h.f
  have hk : k * k ≤ (k + 1) * (k + 1) := Nat.mul_le_mul (Nat.le_succ _) (Nat.le_succ _)
  have hs : SzL g (k + 1) := ⟨by omega, fun i => by have := h.w i; omega, by omega⟩
  unfold noteL
  split
  · exact hs
  split
  · refine ⟨by simp only [List.length_append, List.length_singleton]; omega, fun i => ?_, by simp only; omega⟩
    have hw := h.w i
    unfold gl at hw ⊢
    simp only [List.getD_eq_getElem?_getD] at hw ⊢
    by_cases e : i < g.lives.length
    · rw [List.getElem?_append_left e]; omega
    · by_cases e2 : i = g.lives.length
      · subst e2; simp
      · rw [List.getElem?_eq_none (by simp; omega)]; exact Nat.zero_le _
  split
  · refine ⟨by show (g.lives.set _ _).length ≤ _; rw [List.length_set]; omega, fun i => gl_set_len (by have := h.w i; omega) ?_, by show g.facts.length ≤ _; omega⟩
    have := h.w (findL g t x.2.1).toNat
    unfold gl at this
    rw [List.length_append, List.length_singleton]; omega
  split
  · split
    · refine ⟨by show (g.lives.set _ _).length ≤ _; rw [List.length_set]; omega, fun i => gl_set_len (by have := h.w i; omega) ?_, by show g.facts.length ≤ _; omega⟩
      have := h.w (findL g t x.2.1).toNat
      unfold gl at this
      rw [List.length_append, List.length_singleton]; omega
    · exact hs
  split
  · have hov : ∀ i, (gl (overW g (findL g t x.2.1).toNat at_) i).ws.length ≤ k + 1 := fun i => gl_set_len (by have := h.w i; omega) (by have := h.w (findL g t x.2.1).toNat; unfold gl at this; simp only; omega)
    have hll : (overW g (findL g t x.2.1).toNat at_).lives.length = g.lives.length := List.length_set ..
    split
    · exact ⟨by rw [hll]; omega, hov, by show g.facts.length ≤ _; omega⟩
    · refine ⟨by show (overW g (findL g t x.2.1).toNat at_).lives.length ≤ _; rw [hll]; omega, hov, ?_⟩
      show (g.facts ++ lastFs _ _).length ≤ _
      have h4 := lastFs_len (g.time + 1) (g.lives.getD (findL g t x.2.1).toNat lf0).ws
      have h5 := h.w (findL g t x.2.1).toNat
      unfold gl at h5
      have e : (k + 1) * (k + 1) = k * k + k + k + 1 := by rw [Nat.mul_add, Nat.add_mul]; omega
      rw [List.length_append, e]; omega
  · exact hs
end Go.Proofs.Ytoinjnocopejjaa
