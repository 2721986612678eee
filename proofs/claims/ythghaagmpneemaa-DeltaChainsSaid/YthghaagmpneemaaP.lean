/- Deltas of lists of bytes: what two lists have in common from either end, the delta, and what it makes of the newer one. -/
namespace Go.Proofs.Ythghaagmpneemaa

/-- the first number up to a limit at which p does not hold -/
def cntF (p : Nat → Bool) (i : Nat) : Nat → Nat
  | 0 => i
  | f + 1 => if p i = true then cntF p (i + 1) f else i
def cnt (p : Nat → Bool) (m : Nat) : Nat := cntF p 0 m
structure IsCnt (p : Nat → Bool) (m n : Nat) : Prop where
  le : n ≤ m
  all : ∀ k, k < n → p k = true
  no : n < m → p n = false
theorem IsCnt.unique {p : Nat → Bool} {m n n' : Nat} (h : IsCnt p m n) (h' : IsCnt p m n') : n = n' := by
  rcases Nat.lt_trichotomy n n' with c | c | c
  · have h1 := h'.all n c
    have h2 := h.no (by have := h'.le; omega)
    rw [h1] at h2; cases h2
  · exact c
  · have h1 := h.all n' c
    have h2 := h'.no (by have := h.le; omega)
    rw [h1] at h2; cases h2
theorem cntF_is (p : Nat → Bool) : ∀ (f i : Nat), (∀ k, k < i → p k = true) → IsCnt p (i + f) (cntF p i f)
  | 0, i, h => ⟨Nat.le_refl _, h, fun c => absurd c (Nat.lt_irrefl _)⟩
  | f + 1, i, h => by
    unfold cntF
    split
    · rename_i hp
      have := cntF_is p f (i + 1) (fun k hk => by
        by_cases e : k = i
        · subst e; exact hp
        · exact h k (by omega))
      rwa [show i + (f + 1) = i + 1 + f from by omega]
    · rename_i hp
      exact ⟨by omega, h, fun _ => by simpa using hp⟩
theorem cnt_is (p : Nat → Bool) (m : Nat) : IsCnt p m (cnt p m) := by
  have := cntF_is p m 0 (fun k hk => absurd hk (Nat.not_lt_zero _))
  rwa [Nat.zero_add] at this
theorem cnt_eq {p : Nat → Bool} {m n : Nat} (h : IsCnt p m n) : cnt p m = n := (cnt_is p m).unique h

def fstB (A B : List UInt8) (k : Nat) : Bool := A.getD k 0 == B.getD k 0
def lstB (A B : List UInt8) (k : Nat) : Bool := A.getD (A.length - 1 - k) 0 == B.getD (B.length - 1 - k) 0
def pre (A B : List UInt8) : Nat := cnt (fstB A B) (min A.length B.length)
def suf (A B : List UInt8) : Nat := cnt (lstB A B) (min A.length B.length - pre A B)
theorem pre_is (A B : List UInt8) : IsCnt (fstB A B) (min A.length B.length) (pre A B) := cnt_is _ _
theorem suf_is (A B : List UInt8) : IsCnt (lstB A B) (min A.length B.length - pre A B) (suf A B) := cnt_is _ _
theorem pre_le (A B : List UInt8) : pre A B ≤ A.length ∧ pre A B ≤ B.length := by have := (pre_is A B).le; omega
theorem both_le (A B : List UInt8) : pre A B + suf A B ≤ A.length ∧ pre A B + suf A B ≤ B.length := by
  have h1 := (pre_is A B).le; have h2 := (suf_is A B).le; omega
def two (n : Nat) : List UInt8 := [UInt8.ofNat (n / 256), UInt8.ofNat (n % 256)]
def mid (A B : List UInt8) : List UInt8 := (B.drop (pre A B)).take (B.length - suf A B - pre A B)
def mk (A B : List UInt8) : List UInt8 := two (pre A B) ++ two (suf A B) ++ mid A B
/-- the number of two bytes at a place -/
def num (D : List UInt8) (i : Nat) : Nat := (D.getD i 0).toNat * 256 + (D.getD (i + 1) 0).toNat
def ap (A D : List UInt8) : List UInt8 := A.take (num D 0) ++ D.drop 4 ++ A.drop (A.length - num D 2)
/-- may the bytes be a delta? -/
def apB (A D : List UInt8) : Bool := decide (4 ≤ D.length ∧ num D 0 + num D 2 ≤ A.length ∧ num D 0 + num D 2 + D.length ≤ 260 ∧ mk A (ap A D) = D)

theorem mid_len (A B : List UInt8) : (mid A B).length = B.length - suf A B - pre A B := by
  unfold mid; rw [List.length_take, List.length_drop]; omega
theorem mk_len (A B : List UInt8) : (mk A B).length = 4 + (B.length - suf A B - pre A B) := by
  unfold mk; simp only [List.length_append, mid_len]; rfl
theorem toNat_ofNat (n : Nat) (h : n < 256) : (UInt8.ofNat n).toNat = n := by simp; omega
theorem num_two (n : Nat) (h : n ≤ 65535) (l : List UInt8) : num (two n ++ l) 0 = n := by
  show (UInt8.ofNat (n / 256)).toNat * 256 + (UInt8.ofNat (n % 256)).toNat = n
  rw [toNat_ofNat _ (by omega), toNat_ofNat _ (by omega)]; omega
theorem num_two2 (m n : Nat) (h : n ≤ 65535) (l : List UInt8) : num (two m ++ two n ++ l) 2 = n := by
  show (UInt8.ofNat (n / 256)).toNat * 256 + (UInt8.ofNat (n % 256)).toNat = n
  rw [toNat_ofNat _ (by omega), toNat_ofNat _ (by omega)]; omega
theorem num_mk (A B : List UInt8) (h : A.length ≤ 65535) : num (mk A B) 0 = pre A B ∧ num (mk A B) 2 = suf A B := by
  have h1 := both_le A B
  refine ⟨?_, num_two2 _ _ (by omega) _⟩
  unfold mk; rw [List.append_assoc]; exact num_two _ (by omega) _
theorem drop_mk (A B : List UInt8) : (mk A B).drop 4 = mid A B := rfl
theorem ap_mk (A B : List UInt8) (h : A.length ≤ 65535) : ap A (mk A B) = B := by
  have h1 := both_le A B
  have h0 := pre_le A B
  obtain ⟨e0, e2⟩ := num_mk A B h
  have hp := (pre_is A B).all
  have hs := (suf_is A B).all
  unfold ap
  rw [e0, e2, drop_mk]
  unfold mid
  generalize pre A B = p at *
  generalize suf A B = s at *
  apply List.ext_getElem?
  intro i
  by_cases c1 : i < p
  · rw [List.append_assoc, List.getElem?_append_left (by rw [List.length_take]; omega), List.getElem?_take_of_lt c1]
    have := hp i c1
    unfold fstB at this
    rw [beq_iff_eq, List.getD_eq_getElem?_getD, List.getD_eq_getElem?_getD, List.getElem?_eq_getElem (by omega), List.getElem?_eq_getElem (by omega)] at this
    simp only [Option.getD_some] at this
    rw [List.getElem?_eq_getElem (by omega), List.getElem?_eq_getElem (by omega), this]
  · by_cases c2 : i < B.length - s
    · rw [List.append_assoc, List.getElem?_append_right (by rw [List.length_take]; omega), List.getElem?_append_left (by rw [List.length_take, List.length_take, List.length_drop]; omega),
        List.length_take, List.getElem?_take_of_lt (by omega), List.getElem?_drop]
      congr 1; omega
    · rw [List.getElem?_append_right (by rw [List.length_append, List.length_take, List.length_take, List.length_drop]; omega), List.length_append, List.length_take, List.length_take, List.length_drop, List.getElem?_drop]
      by_cases c3 : i < B.length
      · have := hs (B.length - 1 - i) (by omega)
        unfold lstB at this
        rw [beq_iff_eq, List.getD_eq_getElem?_getD, List.getD_eq_getElem?_getD, List.getElem?_eq_getElem (by omega), List.getElem?_eq_getElem (by omega)] at this
        simp only [Option.getD_some] at this
        rw [List.getElem?_eq_getElem (by omega), List.getElem?_eq_getElem (by omega)]
        congr 1
        have e1 : A.length - s + (i - (min p A.length + min (B.length - s - p) (B.length - p))) = A.length - 1 - (B.length - 1 - i) := by omega
        have e2 : i = B.length - 1 - (B.length - 1 - i) := by omega
        calc _ = A[A.length - 1 - (B.length - 1 - i)] := by congr 1
          _ = B[B.length - 1 - (B.length - 1 - i)] := this
          _ = B[i] := by congr 1; omega
      · rw [List.getElem?_eq_none (by omega), List.getElem?_eq_none (by omega)]
theorem apB_mk (A B : List UInt8) (ha : A.length ≤ 256) (hb : B.length ≤ 256) : apB A (mk A B) = true := by
  have h1 := both_le A B
  obtain ⟨e0, e2⟩ := num_mk A B (by omega)
  unfold apB
  rw [decide_eq_true_eq, e0, e2, ap_mk A B (by omega), mk_len]
  exact ⟨by omega, h1.1, by omega, rfl⟩
theorem apB_yes {A D : List UInt8} (h : apB A D = true) : 4 ≤ D.length ∧ num D 0 + num D 2 ≤ A.length ∧ num D 0 + num D 2 + D.length ≤ 260 ∧ mk A (ap A D) = D := by
  simpa [apB] using h
theorem ap_len {A D : List UInt8} (h : num D 0 + num D 2 ≤ A.length) (h4 : 4 ≤ D.length) : (ap A D).length + 4 = num D 0 + num D 2 + D.length := by
  unfold ap; simp only [List.length_append, List.length_take, List.length_drop]; omega

theorem pre_self (A : List UInt8) : pre A A = A.length := by
  apply cnt_eq
  exact ⟨by omega, fun k _ => by simp [fstB], fun c => by omega⟩
theorem suf_self (A : List UInt8) : suf A A = 0 := by
  have h1 := (suf_is A A).le
  rw [pre_self] at h1; omega
theorem mk_self_len (A : List UInt8) : (mk A A).length = 4 := by rw [mk_len, pre_self, suf_self]; omega
theorem pre_set (A : List UInt8) (k : Nat) (x : UInt8) (hk : k < A.length) (hx : x ≠ A.getD k 0) : pre (A.set k x) A = k := by
  apply cnt_eq
  refine ⟨by rw [List.length_set]; omega, fun j hj => ?_, fun _ => ?_⟩
  · unfold fstB
    rw [List.getD_eq_getElem?_getD, List.getElem?_set_ne (by omega), ← List.getD_eq_getElem?_getD]; simp
  · unfold fstB
    rw [List.getD_eq_getElem?_getD, List.getElem?_set_self hk]
    simpa using hx
theorem suf_set (A : List UInt8) (k : Nat) (x : UInt8) (hk : k < A.length) (hx : x ≠ A.getD k 0) : suf (A.set k x) A = A.length - 1 - k := by
  apply cnt_eq
  rw [pre_set A k x hk hx, List.length_set]
  refine ⟨by omega, fun j hj => ?_, fun c => ?_⟩
  · unfold lstB
    rw [List.length_set, List.getD_eq_getElem?_getD, List.getElem?_set_ne (by omega), ← List.getD_eq_getElem?_getD]; simp
  · unfold lstB
    rw [List.length_set, show A.length - 1 - (A.length - 1 - k) = k from by omega, List.getD_eq_getElem?_getD, List.getElem?_set_self hk]
    simpa using hx
theorem mk_set_len (A : List UInt8) (k : Nat) (x : UInt8) (hk : k < A.length) (hx : x ≠ A.getD k 0) : (mk (A.set k x) A).length = 5 := by
  rw [mk_len, pre_set A k x hk hx, suf_set A k x hk hx]; omega
theorem mk_set_at (A : List UInt8) (k : Nat) (x : UInt8) (hk : k < A.length) (hx : x ≠ A.getD k 0) : (mk (A.set k x) A).getD 4 0 = A.getD k 0 := by
  show (mid (A.set k x) A).getD 0 0 = _
  unfold mid
  rw [pre_set A k x hk hx, suf_set A k x hk hx, List.getD_eq_getElem?_getD, List.getElem?_take_of_lt (by omega), List.getElem?_drop, Nat.add_zero, List.getD_eq_getElem?_getD]
end Go.Proofs.Ythghaagmpneemaa
