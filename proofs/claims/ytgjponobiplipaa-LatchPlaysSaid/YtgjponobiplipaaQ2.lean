/- Two objects side by side; a step that is refused. -/
import Derived.Test.YtgjponobiplipaaQ
namespace Go.Proofs.Ytgjponobiplipaa
open Go.ChangeShapes Go.WideShapes Go.ChangeAt Go.RowKit Go.Maps
set_option linter.unusedVariables false
set_option linter.unusedSimpArgs false

theorem LaAt.other {W W' : World} {B B' p q b b2 : Nat} {C D : List Ct} (h : LaAt W B q b2 C) (o : LaAt W B' p b D) (hg : W.grownBy W' (some b)) (hb : b2 ≠ b) : LaAt W' B q b2 C :=
  ⟨h.hp, h.blk.grown hg (fun e => by
    have e2 : q = b := Option.some.inj e
    obtain ⟨es, clock, hm, _⟩ := o.own.2
    have h2 : W.heap[q]? = some (.cells #[.map (some b2)] 56 (0, 0)) := h.blk
    rw [e2, hm] at h2; cases h2), ⟨h.own.1, h.own.2.kept hg (fun e => hb (Option.some.inj e))⟩, h.ok⟩
theorem do_no {C : List Ct} {s : Stp} (h : doB C s = false) : doC C s = C := by
  unfold doB at h
  unfold doC
  by_cases d : s.1 = true
  · rw [if_pos d] at h ⊢
    unfold dropS; rw [if_neg (by rw [h]; decide)]
  · rw [if_neg d] at h ⊢
    unfold tryB at h
    unfold tryS
    by_cases e : isC C s.2.1 = true
    · rw [if_pos e]
    · rw [if_neg e] at h; cases h
theorem do_yes {C : List Ct} {s : Stp} (h : doB C s = true) : isC (doC C s) s.2.1 = !s.1 := by
  unfold doB at h
  unfold doC
  by_cases d : s.1 = true
  · rw [if_pos d] at h ⊢
    unfold dropS; rw [if_pos h, is_del, d]; simp
  · rw [if_neg d] at h ⊢
    have d' : s.1 = false := by simpa using d
    unfold tryS
    by_cases e : isC C s.2.1 = true
    · rw [if_pos e, e, d']; rfl
    · rw [if_neg e, is_put, d']; simp
theorem do_any (B p b : Nat) (C : List Ct) (s : Stp) (w : World) (h : LaAt w B p b C) (hs : StpOk s) (hn : C.length < 1000000) : Calls Try.prog (if s.1 then 12 else 11) #[.pointer (some ⟨p, 0, none⟩), nmv s.2.1, .int .i64 s.2.2] w (LEnd B p b (doC C s) (.bool (doB C s)) w) := by
  obtain ⟨d, z, t⟩ := s
  cases d with
  | true => exact drop_any B p b C z t w h hs.1
  | false => exact try_any B p b C z t w h hs.1 hs.2 hn
end Go.Proofs.Ytgjponobiplipaa
