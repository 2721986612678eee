/- Arguments as a law is handed them: versions in a slice, a version by value. -/
import Derived.Test.YteelhldioaaffaaLF
import Derived.Test.YteelhldioaaffaaK
import Derived.Deep.Slices
import Derived.Lib.SmallJoins
namespace Go.Proofs.Yteelhldioaaffaa
open Go.ChangeShapes Go.WideShapes Go.ChangeAt Go.RowKit Go.Deep Go.Joins
set_option linter.unusedVariables false
instance : Inhabited Ver := ⟨ver0⟩
theorem u27 : ∃ f0 f1 f2 f3 : Field, Try.prog.underlying 27 = some (.struct #[f0, f1, f2, f3]) ∧ f0.type = 3 ∧ f1.type = 3 ∧ f2.type = 4 ∧ f3.type = 9 ∧ f0.offset = 0 ∧ f1.offset = 1 ∧ f2.offset = 2 ∧ f3.offset = 3 :=
  ⟨_, _, _, _, Try.underlying27, rfl, rfl, rfl, rfl, rfl, rfl, rfl, rfl⟩
theorem cells27 : Try.prog.cellsOf 27 = 4 := by kernel_rfl
theorem cells3 : Try.prog.cellsOf 3 = 1 := by kernel_rfl
theorem cells4 : Try.prog.cellsOf 4 = 1 := by kernel_rfl
theorem cells9 : Try.prog.cellsOf 9 = 1 := by kernel_rfl
theorem list4 {α : Type} {l : List α} (h : l.length = 4) : ∃ a b c d, l = [a, b, c, d] := by
  match l, h with
  | [a, b, c, d], _ => exact ⟨a, b, c, d, rfl⟩
section
variable {H : Type} {enc : TypeId × Value → H}
/-- the four cells of a version that is read -/
theorem ver_read {W : World} {base : Nat} {spare : Nat → Bool} {held : Bool} {fuel : Nat} {cs : List Value} {x : DataW H × List MemPlace} (h : DataW.trod enc Try.prog W base spare held fuel 27 cs = some x) :
    ∃ v : Ver, cs = [.int .i64 v.w, .int .i64 v.ts, .bool v.tomb, .string v.val] ∧ (-9223372036854775808 ≤ v.ts ∧ v.ts ≤ 9223372036854775807) := by
  obtain ⟨f0, f1, f2, f3, hu, t0, t1, t2, t3, o0, o1, o2, o3⟩ := u27
  obtain ⟨y0, y1, y2, y3, n, hx, hl, h0, h1, h2, h3⟩ := trod_struct4 hu h
  obtain ⟨c0, c1, c2, c3, rfl⟩ := list4 (hl.trans cells27)
  rw [t0, o0, cells3] at h0
  rw [t1, o1, cells3] at h1
  rw [t2, o2, cells4] at h2
  rw [t3, o3, cells9] at h3
  obtain ⟨a, e0, _, _⟩ := DataW.trod_int Try.underlying3 h0
  obtain ⟨b, e1, _, wf⟩ := DataW.trod_int Try.underlying3 h1
  obtain ⟨c, e2, _⟩ := DataW.trod_bool Try.underlying4 h2
  obtain ⟨d, e3, _⟩ := DataW.trod_string Try.underlying9 h3
  simp at e0 e1 e2 e3
  subst e0 e1 e2 e3
  refine ⟨⟨a, b, c, d⟩, rfl, ?_⟩
  have em : IntKind.i64.min = -9223372036854775808 := by decide
  simp [Lit.wf] at wf
  show -9223372036854775808 ≤ b ∧ b ≤ 9223372036854775807
  omega
theorem open_vers {W : World} {base : Nat} {v : Value} {d : DataW H} {ps : List MemPlace}
    (hval : Value.okWide Try.prog W .any base 24 v) (h : DataW.Trod enc Try.prog W 0 (fun _ => true) true 24 v d ps) :
    ∃ A n c vs, v = .slice A n c ∧ Vers W.heap.size W A n vs ∧ n ≤ c ∧ n ≤ maxLen ∧ (A = none → n = 0 ∧ c = 0) ∧ (∀ x ∈ vs, -9223372036854775808 ≤ x.ts ∧ x.ts ≤ 9223372036854775807) := by
  obtain ⟨A, n, c, rfl⟩ := okWide_slice Try.underlying24 hval
  obtain ⟨fuel, hf⟩ := h
  rcases open_slice Try.underlying24 hf with ⟨hcs, _⟩ | ⟨a, len, cap, m, n1, D, Pl, hcs, hb, hl, hm, hmm, hx, hi⟩
  · simp [Value.cells] at hcs
    obtain ⟨rfl, rfl, rfl⟩ := hcs
    exact ⟨none, 0, 0, [], rfl, ⟨rfl, fun h => by omega⟩, Nat.le_refl _, Nat.zero_le _, fun _ => ⟨rfl, rfl⟩, fun x hx => by cases hx⟩
  · simp [Value.cells] at hcs
    obtain ⟨rfl, rfl, rfl⟩ := hcs
    simp only [if_true] at hmm
    subst hmm
    have hone : ∀ i, i < n → ∃ v : Ver, (∀ j, j < 4 → W.cell? (a.add (i * 4 + j)) = [Value.int .i64 v.w, .int .i64 v.ts, .bool v.tomb, .string v.val][j]?) ∧ (-9223372036854775808 ≤ v.ts ∧ v.ts ≤ 9223372036854775807) := fun i hin => by
      obtain ⟨cs', hc, ht⟩ := hi i (by omega)
      rw [cells27] at hc
      obtain ⟨v, rfl, hw⟩ := ver_read ht
      obtain ⟨_, _, hat⟩ := World.cells?_some hc
      exact ⟨v, fun j hj => by rw [← Go.Deep.add_add]; exact hat j hj, hw⟩
    obtain ⟨f, hf'⟩ := choose_lt hone
    have hgd : ∀ j, j < n → ((List.range n).map f).getD j ver0 = f j := fun j hj => by
      simp [List.getD_eq_getElem?_getD, hj]
    refine ⟨some a, n, m, (List.range n).map f, rfl, ⟨by simp, fun hn => ?_⟩, hl, by omega, (fun e => by cases e), fun x hx => ?_⟩
    · obtain ⟨b, off, spot⟩ := a
      have h0 := (hf' 0 hn).1 0 (by omega)
      have hspot : spot = none := by simpa [Addr.add] using World.cell?_spot (v := .int .i64 (f 0).w) h0
      subst hspot
      have hlt : b < W.heap.size := by
        by_cases hge : b < W.heap.size
        · exact hge
        · have : W.heap[b]? = none := Array.getElem?_eq_none (by omega)
          rw [add_plain] at h0
          simp [World.cell?, this] at h0
      refine ⟨b, off, rfl, hlt, fun j hj => ?_⟩
      rw [hgd j hj]
      have hc := (hf' j hj).1
      simp only [add_plain] at hc
      exact ⟨hc 0 (by omega), hc 1 (by omega), hc 2 (by omega), hc 3 (by omega)⟩
    · obtain ⟨i, hi', rfl⟩ := List.mem_map.1 hx
      exact (hf' i (List.mem_range.1 hi')).2
theorem open_ver {W : World} {base : Nat} {v : Value} {d : DataW H} {ps : List MemPlace}
    (hval : Value.okWide Try.prog W .any base 27 v) (h : DataW.Trod enc Try.prog W 0 (fun _ => true) true 27 v d ps) :
    ∃ u : Ver, v = u.agg ∧ (-9223372036854775808 ≤ u.ts ∧ u.ts ≤ 9223372036854775807) := by
  obtain ⟨cs, rfl, hsz⟩ := okWide_struct Try.underlying27 hval
  obtain ⟨fuel, hf⟩ := h
  obtain ⟨u, e, hw⟩ := ver_read hf
  obtain ⟨c0, c1, c2, c3, rfl⟩ := array4 (hsz.trans cells27)
  refine ⟨u, ?_, hw⟩
  have e' : [c0] ++ [c1] ++ [c2] ++ [c3] = [Value.int .i64 u.w, .int .i64 u.ts, .bool u.tomb, .string u.val] := by
    rw [← e]; simp [Value.cells]
  simp at e'
  obtain ⟨rfl, rfl, rfl, rfl⟩ := e'
  rfl
end
end Go.Proofs.Yteelhldioaaffaa
