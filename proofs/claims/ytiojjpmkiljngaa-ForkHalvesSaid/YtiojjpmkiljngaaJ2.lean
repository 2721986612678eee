/- Whether a node is safe, both. -/
import Derived.Test.YtiojjpmkiljngaaI0
namespace Go.Proofs.Ytiojjpmkiljngaa
open Go.ChangeShapes Go.WideShapes Go.ChangeAt Go.RowKit
set_option linter.unusedVariables false
set_option linter.unusedSimpArgs false

def safeB (lf : Bool) (n m : Nat) (fan mode : Int) (root : Bool) : Bool :=
  if mode = 0 then true else if mode = 1 then decide ((n : Int) < fan) else if mode = 2 then (if lf then root || decide (1 < n) else decide (2 < m) || (!root && decide (1 < m))) else false
def SafeEnd (b : Bool) (w : World) (x : Ending) (w' : World) : Prop := x = .returned (.bool b) ∧ Below w.heap.size w w'
theorem safe_end {b b' : Bool} {w w' : World} (h : b' = b) (hb : Below w.heap.size w w') : SafeEnd b w (.returned (.bool b')) w' := ⟨ret_bool h, hb⟩
set_option maxRecDepth 100000 in
set_option maxHeartbeats 4000000 in
theorem Safe_any (lf : Bool) (A B C : Option Addr) (n c m d k e : Nat) (fan mode : Int) (root : Bool) (w : World) (hn : n ≤ 1000000) (hm : m ≤ 1000000) :
    Calls Try.prog 19 #[.agg #[.bool lf, .slice A n c, .slice B m d, .slice C k e], .int .i64 fan, .int .u8 mode, .bool root] w (SafeEnd (safeB lf n m fan mode root) w) := by
  have Hb : Hid (Below w.heap.size w (w.alloc (.cells #[.bool lf, .slice A n c, .slice B m d, .slice C k e] 28))) := (Below.refl _ _).alloc (Nat.le_refl _) _
  by_cases h0 : mode = 0
  · subst h0
    have HE : Hid (safeB lf n m fan 0 root = true) := rfl
    go_enter Try.func19, Try.ntmps19
    go_wp2
    go_ret
    exact safe_end (by rw [HE.out]) Hb.out
  · by_cases h1 : mode = 1
    · subst h1
      have HE : Hid (safeB lf n m fan 1 root = decide ((n : Int) < fan)) := rfl
      clear h0
      go_enter Try.func19, Try.ntmps19
      go_wp2
      go_ret
      exact safe_end (by rw [HE.out]) Hb.out
    · by_cases h2 : mode = 2
      · subst h2
        clear h0 h1
        cases lf
        · have HE0 : Hid (safeB false n m fan 2 root = (decide (2 < m) || (!root && decide (1 < m)))) := rfl
          by_cases g2 : 2 < m
          · have d1 : decide ((2 : Int) < (m : Int)) = true := decide_eq_true (by omega)
            have HE : Hid (safeB false n m fan 2 root = true) := by show _ = _; rw [HE0.out, decide_eq_true g2]; rfl
            clear g2
            go_enter Try.func19, Try.ntmps19
            go_wp2
            go_ret
            exact safe_end (by rw [HE.out]) Hb.out
          · have d1 : decide ((2 : Int) < (m : Int)) = false := decide_eq_false (by omega)
            cases root
            · by_cases g1 : 1 < m
              · have d2 : decide ((1 : Int) < (m : Int)) = true := decide_eq_true (by omega)
                have HE : Hid (safeB false n m fan 2 false = true) := by show _ = _; rw [HE0.out, decide_eq_false g2, decide_eq_true g1]; rfl
                clear g2 g1
                go_enter Try.func19, Try.ntmps19
                go_wp2
                go_ret
                exact safe_end (by rw [HE.out]) Hb.out
              · have d2 : decide ((1 : Int) < (m : Int)) = false := decide_eq_false (by omega)
                have HE : Hid (safeB false n m fan 2 false = false) := by show _ = _; rw [HE0.out, decide_eq_false g2, decide_eq_false g1]; rfl
                clear g2 g1
                go_enter Try.func19, Try.ntmps19
                go_wp2
                go_ret
                exact safe_end (by rw [HE.out]) Hb.out
            · have HE : Hid (safeB false n m fan 2 true = false) := by show _ = _; rw [HE0.out, decide_eq_false g2]; rfl
              clear g2
              go_enter Try.func19, Try.ntmps19
              go_wp2
              go_ret
              exact safe_end (by rw [HE.out]) Hb.out
        · have HE0 : Hid (safeB true n m fan 2 root = (root || decide (1 < n))) := rfl
          cases root
          · by_cases g1 : 1 < n
            · have d2 : decide ((1 : Int) < (n : Int)) = true := decide_eq_true (by omega)
              have HE : Hid (safeB true n m fan 2 false = true) := by show _ = _; rw [HE0.out, decide_eq_true g1]; rfl
              clear g1
              go_enter Try.func19, Try.ntmps19
              go_wp2
              go_ret
              exact safe_end (by rw [HE.out]) Hb.out
            · have d2 : decide ((1 : Int) < (n : Int)) = false := decide_eq_false (by omega)
              have HE : Hid (safeB true n m fan 2 false = false) := by show _ = _; rw [HE0.out, decide_eq_false g1]; rfl
              clear g1
              go_enter Try.func19, Try.ntmps19
              go_wp2
              go_ret
              exact safe_end (by rw [HE.out]) Hb.out
          · have HE : Hid (safeB true n m fan 2 true = true) := rfl
            go_enter Try.func19, Try.ntmps19
            go_wp2
            go_ret
            exact safe_end (by rw [HE.out]) Hb.out
      · have HE : Hid (safeB lf n m fan mode root = false) := by show _ = _; unfold safeB; rw [if_neg h0, if_neg h1, if_neg h2]
        have e0 : (mode == 0) = false := by rw [beq_eq_false_iff_ne]; exact h0
        have e1 : (mode == 1) = false := by rw [beq_eq_false_iff_ne]; exact h1
        have e2 : (mode == 2) = false := by rw [beq_eq_false_iff_ne]; exact h2
        clear h0 h1 h2
        go_enter Try.func19, Try.ntmps19
        go_wp2
        go_ret
        exact safe_end (by rw [HE.out]) Hb.out
set_option maxRecDepth 100000 in
set_option maxHeartbeats 4000000 in
theorem rSafe_any (lf : Bool) (A B C : Option Addr) (n c m d k e : Nat) (fan mode : Int) (root : Bool) (w : World) (hn : n ≤ 1000000) (hm : m ≤ 1000000) :
    Calls Try.prog 26 #[.agg #[.bool lf, .slice A n c, .slice B m d, .slice C k e], .int .i64 fan, .int .u8 mode, .bool root] w (SafeEnd (safeB lf n m fan mode root) w) := by
  have Hb : Hid (Below w.heap.size w (w.alloc (.cells #[.bool lf, .slice A n c, .slice B m d, .slice C k e] 47))) := (Below.refl _ _).alloc (Nat.le_refl _) _
  by_cases h0 : mode = 0
  · subst h0
    have HE : Hid (safeB lf n m fan 0 root = true) := rfl
    go_enter Try.func26, Try.ntmps26
    go_wp2
    go_ret
    exact safe_end (by rw [HE.out]) Hb.out
  · by_cases h1 : mode = 1
    · subst h1
      have HE : Hid (safeB lf n m fan 1 root = decide ((n : Int) < fan)) := rfl
      clear h0
      go_enter Try.func26, Try.ntmps26
      go_wp2
      go_ret
      exact safe_end (by rw [HE.out]) Hb.out
    · by_cases h2 : mode = 2
      · subst h2
        clear h0 h1
        cases lf
        · have HE0 : Hid (safeB false n m fan 2 root = (decide (2 < m) || (!root && decide (1 < m)))) := rfl
          by_cases g2 : 2 < m
          · have d1 : decide ((2 : Int) < (m : Int)) = true := decide_eq_true (by omega)
            have HE : Hid (safeB false n m fan 2 root = true) := by show _ = _; rw [HE0.out, decide_eq_true g2]; rfl
            clear g2
            go_enter Try.func26, Try.ntmps26
            go_wp2
            go_ret
            exact safe_end (by rw [HE.out]) Hb.out
          · have d1 : decide ((2 : Int) < (m : Int)) = false := decide_eq_false (by omega)
            cases root
            · by_cases g1 : 1 < m
              · have d2 : decide ((1 : Int) < (m : Int)) = true := decide_eq_true (by omega)
                have HE : Hid (safeB false n m fan 2 false = true) := by show _ = _; rw [HE0.out, decide_eq_false g2, decide_eq_true g1]; rfl
                clear g2 g1
                go_enter Try.func26, Try.ntmps26
                go_wp2
                go_ret
                exact safe_end (by rw [HE.out]) Hb.out
              · have d2 : decide ((1 : Int) < (m : Int)) = false := decide_eq_false (by omega)
                have HE : Hid (safeB false n m fan 2 false = false) := by show _ = _; rw [HE0.out, decide_eq_false g2, decide_eq_false g1]; rfl
                clear g2 g1
                go_enter Try.func26, Try.ntmps26
                go_wp2
                go_ret
                exact safe_end (by rw [HE.out]) Hb.out
            · have HE : Hid (safeB false n m fan 2 true = false) := by show _ = _; rw [HE0.out, decide_eq_false g2]; rfl
              clear g2
              go_enter Try.func26, Try.ntmps26
              go_wp2
              go_ret
              exact safe_end (by rw [HE.out]) Hb.out
        · have HE0 : Hid (safeB true n m fan 2 root = (root || decide (1 < n))) := rfl
          cases root
          · by_cases g1 : 1 < n
            · have d2 : decide ((1 : Int) < (n : Int)) = true := decide_eq_true (by omega)
              have HE : Hid (safeB true n m fan 2 false = true) := by show _ = _; rw [HE0.out, decide_eq_true g1]; rfl
              clear g1
              go_enter Try.func26, Try.ntmps26
              go_wp2
              go_ret
              exact safe_end (by rw [HE.out]) Hb.out
            · have d2 : decide ((1 : Int) < (n : Int)) = false := decide_eq_false (by omega)
              have HE : Hid (safeB true n m fan 2 false = false) := by show _ = _; rw [HE0.out, decide_eq_false g1]; rfl
              clear g1
              go_enter Try.func26, Try.ntmps26
              go_wp2
              go_ret
              exact safe_end (by rw [HE.out]) Hb.out
          · have HE : Hid (safeB true n m fan 2 true = true) := rfl
            go_enter Try.func26, Try.ntmps26
            go_wp2
            go_ret
            exact safe_end (by rw [HE.out]) Hb.out
      · have HE : Hid (safeB lf n m fan mode root = false) := by show _ = _; unfold safeB; rw [if_neg h0, if_neg h1, if_neg h2]
        have e0 : (mode == 0) = false := by rw [beq_eq_false_iff_ne]; exact h0
        have e1 : (mode == 1) = false := by rw [beq_eq_false_iff_ne]; exact h1
        have e2 : (mode == 2) = false := by rw [beq_eq_false_iff_ne]; exact h2
        clear h0 h1 h2
        go_enter Try.func26, Try.ntmps26
        go_wp2
        go_ret
        exact safe_end (by rw [HE.out]) Hb.out
end Go.Proofs.Ytiojjpmkiljngaa
