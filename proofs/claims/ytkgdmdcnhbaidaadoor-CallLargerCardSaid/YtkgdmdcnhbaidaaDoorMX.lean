/- What fits a config fits one with longer limits. -/
import Derived.Test.YtkgdmdcnhbaidaaDoorOC
namespace Go.Proofs.YtkgdmdcnhbaidaaDoor
open Go.ChangeShapes Go.WideShapes Go.ChangeAt Go.RowKit
set_option linter.unusedVariables false
set_option linter.unusedSimpArgs false

def bigC (c d : Conf) : Conf := ⟨c.ta, c.ac, c.ke, c.de, c.ts, max c.kl d.kl, max c.vl d.vl, c.fa⟩
theorem mayB_all {c : Conf} (h : mayB c = true) (j : Nat) (hj : j < 8) : lo j ≤ c.num j ∧ c.num j ≤ hi j := by
  unfold mayB at h
  exact of_decide_eq_true (List.all_eq_true.1 h j (List.mem_range.2 hj))
theorem may_big {c d : Conf} (h : mayB c = true) (h1 : (bigC c d).kl ≤ 64) (h2 : (bigC c d).vl ≤ 256) : mayB (bigC c d) = true := mayB_yes (fun j hj => by
  have hc := mayB_all h
  match j, hj with
  | 0, _ => exact hc 0 (by decide)
  | 1, _ => exact hc 1 (by decide)
  | 2, _ => exact hc 2 (by decide)
  | 3, _ => exact hc 3 (by decide)
  | 4, _ => exact hc 4 (by decide)
  | 5, _ =>
    have h5 : 1 ≤ c.kl ∧ c.kl ≤ 64 := hc 5 (by decide)
    exact ⟨show 1 ≤ max c.kl d.kl by omega, h1⟩
  | 6, _ =>
    have h6 : 0 ≤ c.vl ∧ c.vl ≤ 256 := hc 6 (by decide)
    exact ⟨show 0 ≤ max c.vl d.vl by omega, h2⟩
  | 7, _ => exact hc 7 (by decide))
theorem lenB_big {b b2 : Bool} {s : ByteArray} {l m m2 : Int} (hb : b = true → b2 = true) (hm : m ≤ m2) (h : lenB b s l m = true) : lenB b2 s l m2 = true := by
  unfold lenB at h ⊢
  rw [Bool.and_eq_true, decide_eq_true_eq] at h ⊢
  exact ⟨hb h.1, h.2.1, Int.le_trans h.2.2 hm⟩
theorem fit_big {c d : Conf} {x : Cl} (h : fitC c x = true) (h1 : (bigC c d).kl ≤ 64) (h2 : (bigC c d).vl ≤ 256) : fitC (bigC c d) x = true := by
  have hb : mayB c = true → mayB (bigC c d) = true := fun h => may_big h h1 h2
  have hk : ∀ (l : Int) (s : ByteArray), lenB (mayB c) s l c.kl = true → lenB (mayB (bigC c d)) s l (bigC c d).kl = true := fun l s => lenB_big hb (show c.kl ≤ max c.kl d.kl by omega)
  have hv : ∀ (l : Int) (s : ByteArray), lenB (mayB c) s l c.vl = true → lenB (mayB (bigC c d)) s l (bigC c d).vl = true := fun l s => lenB_big hb (show c.vl ≤ max c.vl d.vl by omega)
  have hkb : ∀ (n : Nm) (s : ByteArray), kbF c n s = true → kbF (bigC c d) n s = true := fun n s h => by
    unfold kbF at h ⊢
    split at h
    · rename_i e; rw [if_pos e]; exact hk 0 s h
    · rename_i e; rw [if_neg e]; exact hk 1 s h
  have imp : ∀ (a b b2 : Bool), (b = true → b2 = true) → (!(a && !b)) = true → (!(a && !b2)) = true := fun a b b2 h => by
    cases a <;> cases b <;> cases b2 <;> simp_all
  unfold fitC fitN at h ⊢
  simp only [Bool.and_eq_true] at h ⊢
  exact ⟨imp _ _ _ (hkb _ _) h.1, imp _ _ _ (hkb _ _) h.2.1, imp _ _ _ (hv _ _) h.2.2.1, h.2.2.2⟩
end Go.Proofs.YtkgdmdcnhbaidaaDoor
