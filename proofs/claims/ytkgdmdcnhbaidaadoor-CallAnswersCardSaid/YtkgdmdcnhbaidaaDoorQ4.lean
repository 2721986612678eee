/- Chains of operations in a drawn region; what their slots hold. -/
import Derived.Test.YtkgdmdcnhbaidaaDoorI
import Derived.Deep.RegionHeld3
namespace Go.Proofs.YtkgdmdcnhbaidaaDoor
open Go.ChangeShapes Go.WideShapes Go.ChangeAt Go.RowKit
set_option linter.unusedVariables false
set_option linter.unusedSimpArgs false

def chains4B (md : Region.Mode) (ops : Array Oper) (a b c d : Nat) (p q r t : Nat → Nat) (ok : Nat → Nat → Nat → Nat → Bool) (L : Nat → Nat → Nat → Nat → Array Bool) : Bool :=
  (List.range (a + 1)).all fun i => (List.range (b + 1)).all fun j => (List.range (c + 1)).all fun k => (List.range (d + 1)).all fun l => !ok i j k l || decide (a + b + c + d ≤ i + j + k + l) ||
    (!(Region.ready md ops (L i j k l)).isEmpty && (Region.ready md ops (L i j k l)).all fun o => (decide (i < a) && o == p i && ok (i + 1) j k l) || (decide (j < b) && o == q j && ok i (j + 1) k l) || (decide (k < c) && o == r k && ok i j (k + 1) l) || (decide (l < d) && o == t l && ok i j k (l + 1)))
section
variable {P : Program} {md : Region.Mode} {ops : Array Oper} {Q : Exit → Act → World → Prop} {S : World → Prop}
/-- Chains of a, b, c, d operations; how far each is: i, j, k, l. A chain's next operation is to be shown only where it may come up. -/
theorem chains4 (a b c d fuel : Nat) (p q r t : Nat → Nat) (ok : Nat → Nat → Nat → Nat → Bool) (L : Nat → Nat → Nat → Nat → Array Bool) (Inv : Nat → Nat → Nat → Nat → Act → World → Prop)
    (hr : chains4B md ops a b c d p q r t ok L = true)
    (h1 : ∀ i, i < a → ∀ j, j ≤ b → ∀ k, k ≤ c → ∀ l, l ≤ d → (L i j k l).setIfInBounds (p i) true = L (i + 1) j k l)
    (h2 : ∀ i, i ≤ a → ∀ j, j < b → ∀ k, k ≤ c → ∀ l, l ≤ d → (L i j k l).setIfInBounds (q j) true = L i (j + 1) k l)
    (h3 : ∀ i, i ≤ a → ∀ j, j ≤ b → ∀ k, k < c → ∀ l, l ≤ d → (L i j k l).setIfInBounds (r k) true = L i j (k + 1) l)
    (h4 : ∀ i, i ≤ a → ∀ j, j ≤ b → ∀ k, k ≤ c → ∀ l, l < d → (L i j k l).setIfInBounds (t l) true = L i j k (l + 1))
    (s1 : ∀ i j k l x w, i < a → j ≤ b → k ≤ c → l ≤ d → ok (i + 1) j k l = true → Inv i j k l x w → S w → wpOp P ops Q (p i) (fun x' w' => S w' ∧ Inv (i + 1) j k l x' w') x w)
    (s2 : ∀ i j k l x w, i ≤ a → j < b → k ≤ c → l ≤ d → ok i (j + 1) k l = true → Inv i j k l x w → S w → wpOp P ops Q (q j) (fun x' w' => S w' ∧ Inv i (j + 1) k l x' w') x w)
    (s3 : ∀ i j k l x w, i ≤ a → j ≤ b → k < c → l ≤ d → ok i j (k + 1) l = true → Inv i j k l x w → S w → wpOp P ops Q (r k) (fun x' w' => S w' ∧ Inv i j (k + 1) l x' w') x w)
    (s4 : ∀ i j k l x w, i ≤ a → j ≤ b → k ≤ c → l < d → ok i j k (l + 1) = true → Inv i j k l x w → S w → wpOp P ops Q (t l) (fun x' w' => S w' ∧ Inv i j k (l + 1) x' w') x w)
    (fin : ∀ x w, Inv a b c d x w → S w → wpAnyH P md ops Q S fuel (L a b c d) x w) :
    ∀ (n i j k l : Nat) (x : Act) (w : World), i ≤ a → j ≤ b → k ≤ c → l ≤ d → n + (i + j + k + l) = a + b + c + d → ok i j k l = true → Inv i j k l x w → S w → wpAnyH P md ops Q S (fuel + n) (L i j k l) x w
  | 0, i, j, k, l, x, w, hi, hj, hk, hl, hn, hok, hI, hS => by
    obtain rfl : i = a := by omega
    obtain rfl : j = b := by omega
    obtain rfl : k = c := by omega
    obtain rfl : l = d := by omega
    exact fin x w hI hS
  | n + 1, i, j, k, l, x, w, hi, hj, hk, hl, hn, hok, hI, hS => by
    have hr' := hr
    unfold chains4B at hr'
    have hr1 := List.all_eq_true.1 (List.all_eq_true.1 (List.all_eq_true.1 (List.all_eq_true.1 hr' i (List.mem_range.2 (by omega))) j (List.mem_range.2 (by omega))) k (List.mem_range.2 (by omega))) l (List.mem_range.2 (by omega))
    rw [hok, decide_eq_false (show ¬ a + b + c + d ≤ i + j + k + l by omega), Bool.not_true, Bool.false_or, Bool.false_or, Bool.and_eq_true] at hr1
    have hne : Region.ready md ops (L i j k l) ≠ [] := fun e => by rw [e] at hr1; cases hr1.1
    have hrd : ∀ o ∈ Region.ready md ops (L i j k l), ((i < a ∧ o = p i) ∧ ok (i + 1) j k l = true) ∨ ((j < b ∧ o = q j) ∧ ok i (j + 1) k l = true) ∨ ((k < c ∧ o = r k) ∧ ok i j (k + 1) l = true) ∨ ((l < d ∧ o = t l) ∧ ok i j k (l + 1) = true) := fun o ho => by
      have := List.all_eq_true.1 hr1.2 o ho
      simpa [Bool.or_eq_true, Bool.and_eq_true, or_assoc] using this
    refine wpAnyH_ready (rs := Region.ready md ops (L i j k l)) rfl hne ?_
    intro o ho
    rcases hrd o ho with ⟨⟨h, rfl⟩, hc⟩ | ⟨⟨h, rfl⟩, hc⟩ | ⟨⟨h, rfl⟩, hc⟩ | ⟨⟨h, rfl⟩, hc⟩
    · refine wpOp_mono (fun x' w' h' => ⟨h'.1, ?_⟩) (s1 i j k l x w h hj hk hl hc hI hS)
      rw [h1 i h j hj k hk l hl]
      exact chains4 a b c d fuel p q r t ok L Inv hr h1 h2 h3 h4 s1 s2 s3 s4 fin n (i + 1) j k l x' w' h hj hk hl (by omega) hc h'.2 h'.1
    · refine wpOp_mono (fun x' w' h' => ⟨h'.1, ?_⟩) (s2 i j k l x w hi h hk hl hc hI hS)
      rw [h2 i hi j h k hk l hl]
      exact chains4 a b c d fuel p q r t ok L Inv hr h1 h2 h3 h4 s1 s2 s3 s4 fin n i (j + 1) k l x' w' hi h hk hl (by omega) hc h'.2 h'.1
    · refine wpOp_mono (fun x' w' h' => ⟨h'.1, ?_⟩) (s3 i j k l x w hi hj h hl hc hI hS)
      rw [h3 i hi j hj k h l hl]
      exact chains4 a b c d fuel p q r t ok L Inv hr h1 h2 h3 h4 s1 s2 s3 s4 fin n i j (k + 1) l x' w' hi hj h hl (by omega) hc h'.2 h'.1
    · refine wpOp_mono (fun x' w' h' => ⟨h'.1, ?_⟩) (s4 i j k l x w hi hj hk h hc hI hS)
      rw [h4 i hi j hj k hk l h]
      exact chains4 a b c d fuel p q r t ok L Inv hr h1 h2 h3 h4 s1 s2 s3 s4 fin n i j k (l + 1) x' w' hi hj hk h (by omega) hc h'.2 h'.1
end

theorem wpAnyH_cast {P : Program} {md : Region.Mode} {ops : Array Oper} {Q : Exit → Act → World → Prop} {S : World → Prop} {f f' : Nat} {l l' : Array Bool} {x : Act} {w : World} (h1 : f' = f) (h2 : l' = l) (h : wpAnyH P md ops Q S f l x w) : wpAnyH P md ops Q S f' l' x w := by subst h1 h2; exact h
/-- a slot that is to hold a value -/
def Cv (v0 : Value) : Nat → Value → Prop
  | 0, u => u = undef
  | _, u => u = v0
/-- a slot that is to hold a block of its own -/
def Cb (B : Nat) (cs : Array Value) (t : TypeId) : Nat → Value → World → Prop
  | 0, u, _ => u = undef
  | _, u, W => ∃ p, u = .pointer (some ⟨p, 0, none⟩) ∧ B ≤ p ∧ Blk W p cs t
theorem Cb.later {B : Nat} {cs : Array Value} {t : TypeId} {W W' : World} {u : Value} : ∀ {i : Nat}, Cb B cs t i u W → Below W.heap.size W W' → Cb B cs t i u W'
  | 0, h, _ => h
  | _ + 1, ⟨p, h1, h2, h3⟩, hb => ⟨p, h1, h2, h3.later hb⟩
theorem Blk.setRow {W : World} {q p : Nat} {c c2 : Array Value} {t : TypeId} (h : Blk W q c t) (hne : q ≠ p) : Blk (W.setRow p c2) q c t := (setRow_other W p q c2 hne).trans h
theorem Blk.setRow_self {W : World} {q : Nat} {c c2 : Array Value} {t : TypeId} (h : Blk W q c t) : Blk (W.setRow q c2) q c2 t := setRow_heap W q c c2 t (0, 0) h
theorem Blk.ne {W : World} {q p : Nat} {c c2 : Array Value} {t t2 : TypeId} (h : Blk W q c t) (h2 : Blk W p c2 t2) (ht : t ≠ t2) : q ≠ p := fun e => by
  subst e
  have := (show W.heap[q]? = _ from h).symm.trans (show W.heap[q]? = _ from h2)
  injection this with this
  injection this with _ this _
  exact ht this
end Go.Proofs.YtkgdmdcnhbaidaaDoor
