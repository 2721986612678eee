/- Of the document's page's texts what else is wanted. -/
import Derived.Test.YtbncpfkoeahhpaaGC
import Derived.Deep.AppendLies
namespace Go.Proofs.Ytbncpfkoeahhpaa
open Go.ChangeShapes Go.WideShapes Go.ChangeAt Go.RowKit Go.Maps
set_option linter.unusedVariables false
set_option linter.unusedSimpArgs false

theorem isC_no {C : List Int} {x : Int} (h : x ∉ C) : isC C x = false := by cases e : isC C x with | false => rfl | true => exact absurd (is_mem.1 e) h
theorem isC_put {C : List Int} {x y : Int} : isC (putC C x) y = (decide (y = x) || isC C y) := by
  rw [Bool.eq_iff_iff, is_mem, mem_put, Bool.or_eq_true, decide_eq_true_eq, is_mem]
theorem isC_del {C : List Int} {x y : Int} : isC (delC C x) y = (isC C y && decide (y ≠ x)) := by
  rw [Bool.eq_iff_iff, is_mem, mem_del, Bool.and_eq_true, decide_eq_true_eq, is_mem]
theorem write_rd {bs : List Int} {o s : Nat} {S : ByteArray} (hS : S.size ≤ s) (h : o + s ≤ bs.length) : rdS (fillZ (putS bs o S) (o + S.size) (s - S.size)) o s = S ++ strOfNums (List.replicate (s - S.size) 0) := by
  have hl : (bs.take o).length = o := by rw [List.length_take]; omega
  have hsl := sb_len S
  have h1 : (fillZ (putS bs o S) (o + S.size) (s - S.size)).drop o = sb S ++ (List.replicate (s - S.size) 0 ++ (putS bs o S).drop (o + S.size + (s - S.size))) := by
    unfold fillZ
    have ht : (putS bs o S).take (o + S.size) = bs.take o ++ sb S := by
      unfold putS
      rw [List.take_append_of_le_length (by simp [hsl]; omega)]
      exact List.take_of_length_le (by simp [hsl]; omega)
    rw [ht, List.append_assoc, List.append_assoc]
    have h2 : ∀ (a r : List Int), a.length = o → (a ++ r).drop o = r := fun a r h => by subst h; exact List.drop_left ..
    exact h2 _ _ hl
  unfold rdS
  rw [h1]
  have h3 : ∀ (a r t : List Int), a.length + r.length = s → (a ++ (r ++ t)).take s = a ++ r := fun a r t h => by
    rw [← List.append_assoc, ← h, ← List.length_append]; exact List.take_left ..
  rw [h3 _ _ _ (by rw [hsl, List.length_replicate]; omega)]
  apply ByteArray.ext
  apply Array.ext'
  rw [ByteArray.data_append, Array.toList_append]
  unfold strOfNums
  rw [List.map_append]
  show _ ++ _ = _ ++ _
  congr 1
  unfold sb
  rw [List.map_map]
  exact (List.map_congr_left (fun x _ => by simp)).trans (List.map_id _)
abbrev InvS (s : Nat) (st : PS) : Prop := Inv s st.1 ((st.1 * s : Nat) : Int) (hdF st.2.2.2) st.2.1 st.2.2.1 st.2.2.2
theorem PgS.up {W : World} {B p b s : Nat} {st : PS} (h : PgS W B p b s st) : st.2.1.Pairwise (fun p q => p < q) := (Pg.at_ h).ok.up
theorem getD_setB (l : List Bool) (k j : Nat) (v : Bool) (h : k < l.length) : (l.set k v).getD j false = if k = j then v else l.getD j false := by
  rw [List.getD_eq_getElem?_getD, List.getElem?_set, List.getD_eq_getElem?_getD]
  by_cases e : k = j
  · subst e; simp [h]
  · rw [if_neg e, if_neg e]
/-- a row is the one that it was, or lies in new memory -/
def Nw (w : World) (v v' : Value) : Prop := ∀ k, v'.ownBlock = some k → v.ownBlock = some k ∨ w.heap.size ≤ k
theorem Nw.refl {w : World} {v : Value} : Nw w v v := fun _ h => .inl h
theorem ow_at {α : Type} {enc : α → Value} {W : World} {B e n : Nat} {v : Value} {xs : List α} (h : Ow enc W B e v n xs) {k : Nat} {x : α} (hx : xs[k]? = some x) : ∃ g c, v = .slice (some ⟨g, 0, none⟩) n c ∧ g < W.heap.size ∧ W.cell? ⟨g, k, none⟩ = some (enc x) ∧ W.frozen? ⟨g, k, none⟩ = false := by
  have hl : xs.length = n := by simpa using h.1
  have hk : k < n := by have := (List.getElem?_eq_some_iff.1 hx).1; omega
  rcases h.2 with ⟨rfl, h2⟩ | ⟨g, cap, cur, rfl, hB, hg, hn, hm, hs, ht⟩
  · omega
  · have hO : W.ownsRow B e 1 (.slice (some ⟨g, 0, none⟩) n cap) n (xs.map enc) := ⟨h.1, .inr ⟨g, cap, cur, rfl, hB, hg, hn, hm, hs, ht⟩⟩
    refine ⟨g, cap, rfl, (Array.getElem?_eq_some_iff.1 hg).1, ?_, hO.frozenAt k⟩
    rw [World.ownsRow.cellAt hO k (by omega), List.getElem?_map, hx]; rfl
def oldc (W : World) (p : Addr) : Value := (W.cell? p).getD undef
theorem oldc_of {W : World} {p : Addr} {v : Value} (h : W.cell? p = some v) : W.cell? p = some (oldc W p) := by unfold oldc; rw [h]; rfl
theorem Nw.trans {w w2 : World} {a b c : Value} (h : Nw w a b) (k : Nw w2 b c) (hs : w.heap.size ≤ w2.heap.size) : Nw w a c := fun j e => by
  rcases k j e with e2 | e2
  · exact h j e2
  · exact .inr (Nat.le_trans hs e2)
theorem append_lies_sl {α : Type} {enc : α → Value} {P : Program} {t e : TypeId} {bytes : Nat} {w : World} {ops : Array Oper} {rest : List Oper} {o : Oper} {a : Act} {Q : Exit → Act → World → Prop} (E : Elem P t e enc bytes) (hgd : o.guard = .none) (s x : Operand)
    (ho : o.op = .call { callee := .builtin .append, args := #[s, x], argTypes := #[t, t] })
    (B : Nat) (v : Value) (n : Nat) (xs : List α) (hs : a.eval s = v) (hown : Ow enc w B e v n xs)
    (g0 : Nat) (y : α) (hx : a.eval x = .slice (some ⟨g0, 0, none⟩) 1 1) (hy : w.cell? ⟨g0, 0, none⟩ = some (enc y)) (hb : n + 1 ≤ 2000000) (hbb : bytes ≤ 1000) (hbase : B ≤ w.heap.size)
    (h : ∀ A' c' w', Ow enc w' B e (.slice A' (n + 1) c') (n + 1) (xs ++ [y]) → w.grownBy w' v.ownBlock → Nw w v (.slice A' (n + 1) c') → wpList P ops Q rest (a.put o.dst (.slice A' (n + 1) c')) w') :
    wpList P ops Q (o :: rest) a w := by
  obtain ⟨i0, z, hi, hz0, hz1, hz2, hz3⟩ := E.info
  have hbt : (n + 1) * bytes ≤ 2000000 * 1000 := Nat.mul_le_mul hb hbb
  refine wpList_append_lies w hgd s x t ho B e i0 z 1 bytes E.und hi hz0 hz1 hz2 hz3 (by decide) v n (xs.map enc) hs hown ⟨g0, 0, none⟩ 1 1 [enc y] hx rfl (fun j u hu => ?_) (fun u hu => ?_) (by decide) (by unfold maxLen; omega) (by omega) hbase w.heap.size rfl (fun g cap w' h1 h2 h3 _ => h _ _ _ ?_ h2 (fun k hk => ?_))
  · match j, hu with
    | 0, hu => simp only [List.getElem?_cons_zero, Option.some.injEq] at hu; subst hu; exact hy
  · simp only [List.mem_singleton] at hu; subst hu; exact E.one y
  · show World.ownsRow _ _ _ _ _ _ _
    rw [List.map_append]; exact h1
  · have e : k = g := by simpa [Value.ownBlock] using hk.symm
    subst e
    rcases h3 with h3 | h3
    · exact .inl h3
    · exact .inr (by omega)
end Go.Proofs.Ytbncpfkoeahhpaa
