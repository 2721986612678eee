/- The row of the slots in use, beside the page. -/
import Derived.Test.YtjkohdenmiljpaaQ
namespace Go.Proofs.Ytjkohdenmiljpaa
open Go.ChangeShapes Go.WideShapes Go.ChangeAt Go.RowKit Go.Maps
set_option linter.unusedVariables false
set_option linter.unusedSimpArgs false

def uv (x : Int) : Value := .int .u16 x
theorem elemU : Elem Try.prog 54 23 uv 2 where
  und := Try.underlying54
  info := by
    have h : (Try.prog.info? 23).map (fun i => (i.zero, i.size, i.bytes)) = some (some (.int .u16 0), 1, 2) := by kernel_rfl
    cases hi : Try.prog.info? 23 with
    | none => rw [hi] at h; cases h
    | some i => rw [hi] at h; simp only [Option.map_some, Option.some.injEq, Prod.mk.injEq] at h; exact ⟨i, _, rfl, h.1, h.2.1, h.2.2, rfl⟩
  one := fun _ => rfl
/-- a row that reads as the slots in use, in the order in which they were told -/
structure UC (U C : List Int) : Prop where
  nd : U.Nodup
  mem : ∀ x, x ∈ U ↔ x ∈ C
  len : U.length = C.length
theorem UC.nil : UC [] [] := ⟨List.nodup_nil, fun _ => Iff.rfl, rfl⟩
theorem UC.put {U C : List Int} {x : Int} (h : UC U C) (hx : x ∉ C) : UC (U ++ [x]) (putC C x) :=
  ⟨List.nodup_append.2 ⟨h.nd, (by simp), fun a ha b hb e => by
    have hb2 : b = x := by simpa using hb
    exact hx ((h.mem x).1 (by rw [← hb2, ← e]; exact ha))⟩, fun y => by
    rw [List.mem_append, mem_put, h.mem y, List.mem_singleton]
    exact Or.comm, by rw [List.length_append, len_put hx, h.len]; rfl⟩
theorem UC.del {U C : List Int} {x : Int} (h : UC U C) (hu : C.Pairwise (fun p q => p < q)) (hx : x ∈ C) : UC (U.filter fun y => decide (y ≠ x)) (delC C x) := by
  have hm : ∀ y, y ∈ U.filter (fun y => decide (y ≠ x)) ↔ y ∈ delC C x := fun y => by
    rw [mem_del, List.mem_filter, h.mem y]; simp
  refine ⟨h.nd.filter _, hm, ?_⟩
  have h1 : (U.filter fun y => decide (y ≠ x)).length + 1 = U.length := by
    have hn := h.nd
    have hxu : x ∈ U := (h.mem x).2 hx
    clear hm h hx hu
    induction U with
    | nil => cases hxu
    | cons y r ih =>
      have hp := List.nodup_cons.1 hn
      by_cases e : y = x
      · subst e
        have hf : r.filter (fun z => decide (z ≠ y)) = r := List.filter_eq_self.2 (fun q hq => decide_eq_true (fun e => hp.1 (by rw [← e]; exact hq)))
        rw [List.filter_cons_of_neg (by simp), hf]
        rfl
      · rw [List.filter_cons_of_pos (by simpa using e)]
        have := ih hp.2 (by
          rcases List.mem_cons.1 hxu with h | h
          · exact absurd h.symm e
          · exact h)
        rw [List.length_cons, List.length_cons]; omega
  have h2 := len_del hu hx
  have h3 := h.len
  omega
section
variable {W W' : World} {B B' p b s m : Nat} {C bs : List Int} {F : List Nat} {v : Value} {n : Nat} {U : List Int}
/-- the row lies apart from the page -/
theorem ow_page {slot fresh last : Int} (o : Ow uv W B' 23 v n U) (h : PgAt W B p b slot fresh last C bs) : ∀ k, v.ownBlock = some k → k ≠ p ∧ k ≠ b := fun k hk => by
  obtain ⟨cur, hc⟩ := Ow.tag o k hk
  refine ⟨fun e => ?_, fun e => ?_⟩
  · have h2 : W.heap[p]? = some (.cells (pgv slot fresh last b bs).toArray 69 (0, 0)) := h.blk
    rw [e, h2] at hc; cases hc
  · obtain ⟨es, clock, hm, _⟩ := h.own.2
    rw [e, hm] at hc; cases hc
theorem Pg.grown (h : Pg W B p b s m C bs F) (o : Ow uv W B' 23 v n U) (hg : W.grownBy W' v.ownBlock) : Pg W' B p b s m C bs F := by
  have hap := ow_page o h.at_
  refine ⟨⟨h.at_.hp, h.at_.blk.grown hg (fun e => (hap p e.symm).1 rfl), ⟨h.at_.own.1, h.at_.own.2.kept hg (fun e => (hap b e.symm).2 rfl)⟩, h.at_.ok, h.at_.len⟩, h.inv⟩
theorem ow_fr {slot fresh last : Int} (o : Ow uv W B' 23 v n U) (h : PgAt W B p b slot fresh last C bs) (hf : Fr W W' p b) : Ow uv W' B' 23 v n U := by
  have hap := ow_page o h
  refine ⟨o.1, ?_⟩
  rcases o.2 with h1 | ⟨g, cap, cur, e, hB, hg, rest⟩
  · exact .inl h1
  · refine .inr ⟨g, cap, cur, e, hB, ?_, rest⟩
    have hk := hap g (by rw [e]; rfl)
    rw [hf.block g (Array.getElem?_eq_some_iff.1 hg).1 hk.1 hk.2]
    exact hg
end
end Go.Proofs.Ytjkohdenmiljpaa
