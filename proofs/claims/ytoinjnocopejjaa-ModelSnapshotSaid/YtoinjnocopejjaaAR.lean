/- Rows of answers; a copy beside the models. -/
import Derived.Test.YtoinjnocopejjaaMO2
import Derived.Test.YtoinjnocopejjaaCS
import Derived.Test.YtoinjnocopejjaaNP
import Derived.Test.YtoinjnocopejjaaSA
namespace Go.Proofs.Ytoinjnocopejjaa
open Go.ChangeShapes Go.WideShapes Go.ChangeAt Go.RowKit Go.Maps
set_option linter.unusedVariables false
set_option linter.unusedSimpArgs false
theorem mq_copy {W : World} {B p : Nat} {own : Nat → Nat} {s : MS} (h : MQ_ W B own p s) (hn : s.txns.length ≤ 100000) : Calls Try.prog 26 #[.pointer (some ⟨p, 0, none⟩)] W fun e w' => ∃ (q : Nat) (own' : Nat → Nat), e = .returned (.pointer (some ⟨q, 0, none⟩)) ∧ MQ_ w' B own' q s ∧ (∀ p' t, MQ_ W B own p' t → MQ_ w' B own' p' t ∧ p' ≠ q) ∧ Below W.heap.size W w' := by
  have hB : B ≤ W.heap.size := by have := h.self; omega
  obtain ⟨S, h1, h2⟩ := h
  refine (copy_any B p s S W h1 hn).mono ?_
  rintro e w' ⟨q, S', rfl, hm, hb⟩
  refine ⟨q, ownT W own q, rfl, MQ_.new hm hB, fun p' t hp => ⟨(hp.own' (fun k hk => ownT_lt hk)).later hb, ?_⟩, hb⟩
  have e1 := hp.self
  have e2 := hm.lt q hm.self
  omega
abbrev AV := As × Option Addr × Nat
def anE (x : AV) : List Value := [.int .i64 x.1.1, .bool x.1.2.1, .string x.1.2.2.1, .slice x.2.1 x.1.2.2.2.length x.2.2]
theorem anE_len (x : AV) : (anE x).length = 4 := rfl
theorem elemA : RElem anE 4 Try.prog 79 33 56 where
  und := Try.underlying79
  info := by
    have h : (Try.prog.info? 33).map (fun i => (i.zero, i.size, i.bytes)) = some (some (.agg #[.int .i64 0, .bool false, .string ByteArray.empty, .slice none 0 0]), 4, 56) := by kernel_rfl
    cases hi : Try.prog.info? 33 with
    | none => rw [hi] at h; cases h
    | some i => rw [hi] at h; simp only [Option.map_some, Option.some.injEq, Prod.mk.injEq] at h; exact ⟨i, _, rfl, h.1, h.2.1, h.2.2, rfl⟩
  pos := by decide
  len := fun _ => rfl
  one := fun x u hu => by
    unfold anE at hu
    simp only [List.mem_cons, List.not_mem_nil, or_false] at hu
    rcases hu with rfl | rfl | rfl | rfl <;> rfl
theorem Blk.rslA {W : World} {g : Nat} {x : AV} (h : Blk W g (anE x).toArray 33) : RSl anE 4 W (some ⟨g, 0, none⟩) 1 [x] := h.rsl
theorem idx79 (g off m c k : Nat) (i : Int) (hi : i = (k : Int)) (h : k < m) (W : World) : (Instr.indexAt 79 (.slice (some ⟨g, off, none⟩) m c) (.int .i64 i)).run Try.prog W = .ok (.pointer (some ⟨g, off + k * 4, none⟩)) W := by
  subst hi
  have h1 : (0 : Int) ≤ (k : Int) ∧ (k : Int) < (m : Int) := by omega
  go_simp
/-- what is answered, one behind the other -/
def ansM : MS → List Tn → List As
  | _, [] => []
  | s, t :: l => (doM s t.1 t.2).2 :: ansM (stp s t) l
theorem ansM_len : ∀ (l : List Tn) (s : MS), (ansM s l).length = l.length
  | [], _ => rfl
  | t :: l, s => by show (ansM _ l).length + 1 = _; rw [ansM_len l]; rfl
theorem ansM_at : ∀ (l : List Tn) (s : MS) (k : Nat) (t : Tn), l[k]? = some t → (ansM s l)[k]? = some (doM (runM s (l.take k)) t.1 t.2).2
  | [], _, _, _, h => by simp at h
  | u :: l, s, 0, t, h => by simp at h; subst h; rfl
  | u :: l, s, k + 1, t, h => ansM_at l (stp s u) k t h
theorem ansM_take (s : MS) (l : List Tn) (k : Nat) (t : Tn) (h : l[k]? = some t) : (ansM s l).take (k + 1) = (ansM s l).take k ++ [(doM (runM s (l.take k)) t.1 t.2).2] := by
  rw [List.take_add_one, ansM_at l s k t h]; rfl
/-- a row of answers, with their pairs -/
structure ARow (W : World) (B : Nat) (A : Option Addr) (n c : Nat) (L : List AV) : Prop where
  row : ROwn anE 4 W B 33 (.slice A n c) n L
  prs : ∀ x ∈ L, ROwn pvc 2 W B 129 (.slice x.2.1 x.1.2.2.2.length x.2.2) x.1.2.2.2.length x.1.2.2.2
section
variable {W W' : World} {B n c : Nat} {A : Option Addr} {L : List AV}
theorem ARow.later (h : ARow W B A n c L) (hb : Below W.heap.size W W') : ARow W' B A n c L := ⟨h.row.later hb, fun x hx => (h.prs x hx).later hb⟩
theorem ARow.kp (h : ARow W B A n c L) (hk : Kp W W') : ARow W' B A n c L := ⟨h.row.kp hk (by decide) (by decide) (by decide) (by decide), fun x hx => (h.prs x hx).kp hk (by decide) (by decide) (by decide) (by decide)⟩
theorem ARow.nil (W : World) (B : Nat) : ARow W B none 0 0 [] := ⟨ROwn.nil0 _ _ _, fun _ h => by cases h⟩
end
theorem ARow.grow {W W' : World} {B n c : Nat} {A A' : Option Addr} {c' : Nat} {L : List AV} {x : AV} (h : ARow W B A n c L) (hx : ROwn pvc 2 W B 129 (.slice x.2.1 x.1.2.2.2.length x.2.2) x.1.2.2.2.length x.1.2.2.2) (ho : ROwn anE 4 W' B 33 (.slice A' (n + 1) c') (n + 1) (L ++ [x])) (hg : W.grownBy W' (Value.slice A n c).ownBlock) : ARow W' B A' (n + 1) c' (L ++ [x]) := by
  have hk : ∀ y : AV, ROwn pvc 2 W B 129 (.slice y.2.1 y.1.2.2.2.length y.2.2) y.1.2.2.2.length y.1.2.2.2 → ROwn pvc 2 W' B 129 (.slice y.2.1 y.1.2.2.2.length y.2.2) y.1.2.2.2.length y.1.2.2.2 := fun y hy =>
    hy.keepS (fun i hi => hg.block i (hy.lt i hi).2 (fun e => by
      obtain ⟨cur, hc⟩ := hy.tag i hi
      obtain ⟨cur2, hc2⟩ := h.row.tag i e.symm
      rw [hc] at hc2
      simp only [Option.some.injEq, Obj.cells.injEq] at hc2
      exact absurd hc2.2.1 (by decide)))
  refine ⟨ho, fun y hy => ?_⟩
  rcases List.mem_append.1 hy with h1 | h1
  · exact hk y (h.prs y h1)
  · rw [List.mem_singleton] at h1
    subst h1; exact hk _ hx
theorem grown_lift {α : Type} {enc : α → List Value} {k e n B : Nat} {w W W' : World} {v : Value} {L : List α} (hb : Below B w W) (hB : B ≤ W.heap.size) (h : ROwn enc k W B e v n L) (hg : W.grownBy W' v.ownBlock) : Below B w W' :=
  hb.trans ⟨hg.os, hg.tape, hg.output, hg.size, fun j hj => hg.block j (Nat.lt_of_lt_of_le hj hB) (fun e => by have := (h.lt j e.symm).1; omega)⟩
theorem MQ_.grownT {α : Type} {enc : α → List Value} {k e n B B' p : Nat} {W W' : World} {v : Value} {L : List α} {own : Nat → Nat} {s : MS} (h : MQ_ W B' own p s) (hr : ROwn enc k W B e v n L) (hg : W.grownBy W' v.ownBlock) (h1 : e ≠ 110) (h2 : e ≠ 112) (h3 : e ≠ 85) (h4 : e ≠ 3) (h5 : e ≠ 26) : MQ_ W' B' own p s := by
  obtain ⟨S, ⟨x, hx, rfl⟩, h6⟩ := h
  refine ⟨_, ⟨x, hx.keepS (fun j hj => hg.block j (hx.lt j hj).2 (fun e2 => ?_)) (fun g cur hgc => hg.block g (Array.getElem?_eq_some_iff.1 hgc).1 (fun e2 => ?_)), rfl⟩, h6⟩
  · obtain ⟨cur, hc⟩ := hr.tag j e2.symm
    exact (hx.tags j hj).not (show Blk W j cur e from hc) h1 h2 h3 h4
  · obtain ⟨cur2, hc⟩ := hr.tag g e2.symm
    rw [hc] at hgc
    simp only [Option.some.injEq, Obj.cells.injEq] at hgc
    exact h5 hgc.2.1
end Go.Proofs.Ytoinjnocopejjaa
