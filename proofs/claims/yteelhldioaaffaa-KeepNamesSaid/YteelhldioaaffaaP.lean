/- Lists of versions: which may be, what is kept, what is seen. -/
namespace Go.Proofs.Yteelhldioaaffaa
structure Ver where
  w : Int
  ts : Int
  tomb : Bool
  val : ByteArray
def ver0 : Ver := ⟨0, 0, false, ⟨#[]⟩⟩
theorem Ver.ext' {a b : Ver} (h1 : a.w = b.w) (h2 : a.ts = b.ts) (h3 : a.tomb = b.tomb) (h4 : a.val = b.val) : a = b := by
  cases a; cases b; simp_all
def verB (a b : Ver) : Bool := decide (a.w = b.w) && decide (a.ts = b.ts) && (a.tomb == b.tomb) && decide (a.val = b.val)
theorem verB_yes {a b : Ver} : verB a b = true ↔ a = b := by
  unfold verB
  simp only [Bool.and_eq_true, decide_eq_true_eq, beq_iff_eq]
  exact ⟨fun h => Ver.ext' h.1.1.1 h.1.1.2 h.1.2 h.2, fun h => by subst h; exact ⟨⟨⟨rfl, rfl⟩, rfl⟩, rfl⟩⟩
theorem verB_self (a : Ver) : verB a a = true := verB_yes.2 rfl
theorem verB_no {a b : Ver} (h : a ≠ b) : verB a b = false := by
  cases e : verB a b
  · rfl
  · exact absurd (verB_yes.1 e) h
/-- may a list be? -/
def LegalP (l : List Ver) : Prop := ∀ k, k < l.length → 1 ≤ (l.getD k ver0).ts ∧ (0 < k → (l.getD k ver0).ts < (l.getD (k - 1) ver0).ts)
def legalB : List Ver → Bool
  | [] => true
  | [v] => decide (1 ≤ v.ts)
  | v :: u :: l => decide (1 ≤ v.ts) && decide (u.ts < v.ts) && legalB (u :: l)
theorem legal_iff : ∀ {l : List Ver}, legalB l = true ↔ LegalP l
  | [] => ⟨fun _ k hk => by simp at hk, fun _ => rfl⟩
  | [v] => by
    simp only [legalB, decide_eq_true_eq]
    refine ⟨fun h k hk => ?_, fun h => (h 0 (by simp)).1⟩
    have : k = 0 := by simp at hk; exact hk
    subst this
    exact ⟨h, fun h0 => by omega⟩
  | v :: u :: l => by
    simp only [legalB, Bool.and_eq_true, decide_eq_true_eq]
    constructor
    · rintro ⟨⟨h1, h2⟩, h3⟩ k hk
      have ih := legal_iff.1 h3
      cases k with
      | zero => exact ⟨h1, fun h0 => by omega⟩
      | succ k =>
        have hk' : k < (u :: l).length := by simp at hk ⊢; omega
        have h4 := ih k hk'
        refine ⟨by rw [List.getD_cons_succ]; exact h4.1, fun _ => ?_⟩
        rw [List.getD_cons_succ]
        cases k with
        | zero => exact h2
        | succ k => exact h4.2 (by omega)
    · intro h
      refine ⟨⟨(h 0 (by simp)).1, (h 1 (by simp)).2 (by omega)⟩, legal_iff.2 fun k hk => ?_⟩
      have h4 := h (k + 1) (by simp at hk ⊢; omega)
      rw [List.getD_cons_succ] at h4
      refine ⟨h4.1, fun h0 => ?_⟩
      have h5 := h4.2 (by omega)
      obtain ⟨j, rfl⟩ : ∃ j, k = j + 1 := ⟨k - 1, by omega⟩
      exact h5
theorem legal_yes {l : List Ver} (h : LegalP l) : legalB l = true := legal_iff.2 h
theorem legal_no {l : List Ver} (h : ¬ LegalP l) : legalB l = false := by
  cases e : legalB l
  · rfl
  · exact absurd (legal_iff.1 e) h
/-- the place of the newest one up to a number; as many as there are: there is none -/
def upto : List Ver → Int → Nat
  | [], _ => 0
  | v :: l, n => if v.ts ≤ n then 0 else upto l n + 1
theorem upto_le : ∀ (l : List Ver) (n : Int), upto l n ≤ l.length
  | [], _ => Nat.le_refl _
  | v :: l, n => by
    unfold upto
    split
    · exact Nat.zero_le _
    · have := upto_le l n; simp; omega
theorem upto_lt : ∀ (l : List Ver) (n : Int) (k : Nat), k < upto l n → n < (l.getD k ver0).ts
  | [], _, k, h => by simp [upto] at h
  | v :: l, n, k, h => by
    unfold upto at h
    split at h
    · omega
    · cases k with
      | zero => simp only [List.getD_cons_zero]; omega
      | succ k => rw [List.getD_cons_succ]; exact upto_lt l n k (by omega)
theorem upto_at : ∀ (l : List Ver) (n : Int), upto l n < l.length → (l.getD (upto l n) ver0).ts ≤ n
  | [], _, h => by simp at h
  | v :: l, n, h => by
    unfold upto at h ⊢
    split
    · simpa
    · rename_i hn
      rw [if_neg hn] at h
      rw [List.getD_cons_succ]
      exact upto_at l n (by simp at h; omega)
theorem upto_eq (l : List Ver) (n : Int) (k : Nat) (hk : k ≤ l.length) (h1 : ∀ j, j < k → n < (l.getD j ver0).ts) (h2 : k < l.length → (l.getD k ver0).ts ≤ n) : upto l n = k := by
  rcases Nat.lt_trichotomy (upto l n) k with c | c | c
  · have a := h1 _ c
    have b := upto_at l n (by omega)
    omega
  · exact c
  · have a := upto_lt l n k c
    have b := h2 (by have := upto_le l n; omega)
    omega
/-- how many are kept -/
def nkept (l : List Ver) (f : Int) : Nat := if upto l f < l.length ∧ (l.getD (upto l f) ver0).tomb = false then upto l f + 1 else upto l f
def kept (l : List Ver) (f : Int) : List Ver := l.take (nkept l f)
theorem nkept_le (l : List Ver) (f : Int) : nkept l f ≤ l.length := by
  unfold nkept
  have := upto_le l f
  split <;> omega
def seenB (l : List Ver) (s : Int) : Bool := decide (upto l s < l.length) && !(l.getD (upto l s) ver0).tomb
def seen (l : List Ver) (s : Int) : Ver := if seenB l s = true then l.getD (upto l s) ver0 else ver0
def clashB (l : List Ver) (s : Int) : Bool := decide (0 < l.length ∧ s < (l.getD 0 ver0).ts)
end Go.Proofs.Yteelhldioaaffaa
