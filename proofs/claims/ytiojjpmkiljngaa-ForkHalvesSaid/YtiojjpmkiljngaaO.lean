/- What is refused: contracts for the examples of nodes that may not be. -/
import Derived.Test.YtiojjpmkiljngaaK
namespace Go.Proofs.Ytiojjpmkiljngaa
open Go.ChangeShapes Go.WideShapes Go.ChangeAt Go.RowKit
set_option linter.unusedVariables false
set_option linter.unusedSimpArgs false
/-- refused: no node, and why -/
abbrev NoEnd (code : Int) (w : World) : Ending → World → Prop := NodeEnd false 0 0 0 [] [] [] code w
theorem no_of {code : Int} {w : World} {x : Ending} {w' : World} (h : NdEnd false [] [] [] code w x w') : NoEnd code w x w' := node_of h rfl rfl rfl (by omega)
def NoTwo (w : World) (x : Ending) (w' : World) : Prop := ∃ A B C c d e A' B' C' c' d' e', x = .returned (.tuple #[.agg #[.bool false, .slice A 0 c, .slice B 0 d, .slice C 0 e], .agg #[.bool false, .slice A' 0 c', .slice B' 0 d', .slice C' 0 e'], .string e0, .int .i64 4]) ∧ Below w.heap.size w w'
section
variable {lf : Bool} {A B C : Option Addr} {n c m d k e : Nat} {xs : List ByteArray} {ks rs : List Int} {w : World}
theorem may_c (b : Bool) (hN : Nd w A B C n c m d k e xs ks rs) (hM : mayB lf xs m k = b) : Calls Try.prog 10 #[.agg #[.bool lf, .slice A n c, .slice B m d, .slice C k e]] w (BoolEnd b w) := by
  have := May_any lf A B C n c m d k e xs w hN.K.rd (by have := hN.sz; omega) (by have := hN.sz; omega) (by have := hN.sz; omega)
  rw [hM] at this; exact this
theorem place_no (key : ByteArray) (hN : Nd w A B C n c m d k e xs ks rs) (hM : mayB lf xs m k = false) :
    Calls Try.prog 12 #[.agg #[.bool lf, .slice A n c, .slice B m d, .slice C k e], .string key] w fun x w' => x = .returned (.tuple #[.int .i64 0, .bool false]) ∧ Below w.heap.size w w' := by
  have := Place_any lf A B C n c m d k e xs key w hN.K.rd (by have := hN.sz; omega) (by have := hN.sz; omega) (by have := hN.sz; omega)
  rw [hM] at this; exact this
theorem kid_no (key : ByteArray) (hN : Nd w A B C n c m d k e xs ks rs) (hM : mayB lf xs m k = false) :
    Calls Try.prog 11 #[.agg #[.bool lf, .slice A n c, .slice B m d, .slice C k e], .string key] w fun x w' => x = .returned (.int .i64 0) ∧ Below w.heap.size w w' := by
  have := Kid_any lf A B C n c m d k e xs key w hN.K.rd (by have := hN.sz; omega) (by have := hN.sz; omega) (by have := hN.sz; omega)
  rw [hM, Bool.and_false] at this; exact this
theorem fence_no_c (kid : Int) (hN : Nd w A B C n c m d k e xs ks rs) (hM : fenceB lf xs m k kid = false) :
    Calls Try.prog 18 #[.agg #[.bool lf, .slice A n c, .slice B m d, .slice C k e], .int .i64 kid] w fun x w' => x = .returned (.tuple #[.string e0, .bool false]) ∧ Below w.heap.size w w' := fence_c kid e0 false hN (fence_no hM) hM
theorem put_no (key : ByteArray) (row : Int) (hN : Nd w A B C n c m d k e xs ks rs) (hM : mayB lf xs m k = false ∨ lf = false) : Calls Try.prog 13 #[.agg #[.bool lf, .slice A n c, .slice B m d, .slice C k e], .string key, .int .u64 row] w (NoEnd 4 w) := by
  cases lf
  · exact (put_inner A B C n c m d k e xs ks rs key row w hN).mono fun x w' h => no_of h
  · rcases hM with h | h
    · exact (put_form A B C n c m d k e xs ks rs key row w hN h).mono fun x w' h => no_of h
    · cases h
theorem take_no (key : ByteArray) (hN : Nd w A B C n c m d k e xs ks rs) (hM : mayB lf xs m k = false ∨ lf = false) : Calls Try.prog 14 #[.agg #[.bool lf, .slice A n c, .slice B m d, .slice C k e], .string key] w (NoEnd 4 w) := by
  cases lf
  · exact (take_inner A B C n c m d k e xs ks rs key w hN).mono fun x w' h => no_of h
  · rcases hM with h | h
    · exact (take_form A B C n c m d k e xs ks rs key w hN h).mono fun x w' h => no_of h
    · cases h
theorem graft_no (key : ByteArray) (kid : Int) (hN : Nd w A B C n c m d k e xs ks rs) (hM : (!lf && mayB lf xs m k) = false) : Calls Try.prog 16 #[.agg #[.bool lf, .slice A n c, .slice B m d, .slice C k e], .string key, .int .i64 kid] w (NoEnd 4 w) :=
  (graft_form lf A B C n c m d k e xs ks rs key kid w hN hM).mono fun x w' h => no_of h
theorem cut_no (kid : Int) (hN : Nd w A B C n c m d k e xs ks rs) (hM : (!lf && mayB lf xs m k) = false) : Calls Try.prog 17 #[.agg #[.bool lf, .slice A n c, .slice B m d, .slice C k e], .int .i64 kid] w (NoEnd 4 w) :=
  (cut_form lf A B C n c m d k e xs ks rs kid w hN hM).mono fun x w' h => no_of h
theorem safe_c (fan mode : Int) (root b : Bool) (hN : Nd w A B C n c m d k e xs ks rs) (h : safeB lf n m fan mode root = b) : Calls Try.prog 19 #[.agg #[.bool lf, .slice A n c, .slice B m d, .slice C k e], .int .i64 fan, .int .u8 mode, .bool root] w (SafeEnd b w) := by
  have := Safe_any lf A B C n c m d k e fan mode root w (by have := hN.sz; omega) (by have := hN.sz; omega)
  rw [h] at this; exact this
theorem no_two {w : World} {x : Ending} {w' : World} (h : SplEnd false [] [] [] [] [] [] e0 4 w x w') : NoTwo w x w' := by
  obtain ⟨v, v', rfl, ho, ho', hb⟩ := h
  obtain ⟨A, B, C, c, d, e, rfl, hn⟩ := ho.nd (by simp)
  obtain ⟨A', B', C', c', d', e', rfl, hn'⟩ := ho'.nd (by simp)
  exact ⟨A, B, C, c, d, e, A', B', C', c', d', e', rfl, hb⟩
theorem split_no (hN : Nd w A B C n c m d k e xs ks rs) (hM : mayB lf xs m k = false ∨ (mayB lf xs m k = true ∧ n < 3)) : Calls Try.prog 15 #[.agg #[.bool lf, .slice A n c, .slice B m d, .slice C k e]] w (NoTwo w) := by
  rcases hM with h | ⟨h, h3⟩
  · exact (split_form lf A B C n c m d k e xs ks rs w hN h).mono fun x w' h => no_two h
  · exact (split_few lf A B C n c m d k e xs ks rs w hN h h3).mono fun x w' h => no_two h
end
end Go.Proofs.Ytiojjpmkiljngaa
