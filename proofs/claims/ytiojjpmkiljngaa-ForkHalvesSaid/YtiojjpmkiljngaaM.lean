/- A node as a law is handed it. -/
import Derived.Test.YtiojjpmkiljngaaLF
import Derived.Test.YtiojjpmkiljngaaI0
import Derived.SliceStrings
import Derived.ChangeMaps5
import Derived.Deep.Slices
import Derived.Deep.Strs
import Derived.Lib.SmallJoins
namespace Go.Proofs.Ytiojjpmkiljngaa
open Go.ChangeShapes Go.WideShapes Go.ChangeAt Go.RowKit Go.Deep Go.Joins Go.ChangeMaps
set_option linter.unusedVariables false
set_option linter.unusedSimpArgs false
theorem cells9 : Try.prog.cellsOf 9 = 1 := by kernel_rfl
theorem cells4 : Try.prog.cellsOf 4 = 1 := by kernel_rfl
theorem cells3 : Try.prog.cellsOf 3 = 1 := by kernel_rfl
theorem cells24 : Try.prog.cellsOf 24 = 1 := by kernel_rfl
theorem cells22 : Try.prog.cellsOf 22 = 1 := by kernel_rfl
theorem cells25 : Try.prog.cellsOf 25 = 1 := by kernel_rfl
theorem cells26 : Try.prog.cellsOf 26 = 1 := by kernel_rfl
theorem cells28 : Try.prog.cellsOf 28 = 4 := by kernel_rfl
theorem bytes9 : Try.prog.bytesOf 9 = 16 := by kernel_rfl
theorem bytes3 : Try.prog.bytesOf 3 = 8 := by kernel_rfl
theorem bytes24 : Try.prog.bytesOf 24 = 8 := by kernel_rfl
theorem u28 : ∃ f0 f1 f2 f3 : Field, Try.prog.underlying 28 = some (.struct #[f0, f1, f2, f3]) ∧ f0.type = 4 ∧ f1.type = 22 ∧ f2.type = 26 ∧ f3.type = 25 ∧ f0.offset = 0 ∧ f1.offset = 1 ∧ f2.offset = 2 ∧ f3.offset = 3 :=
  ⟨_, _, _, _, Try.underlying28, rfl, rfl, rfl, rfl, rfl, rfl, rfl, rfl⟩
theorem list4 {α : Type} {l : List α} (h : l.length = 4) : ∃ a b c d, l = [a, b, c, d] := by
  match l, h with
  | [a, b, c, d], _ => exact ⟨a, b, c, d, rfl⟩
section
variable {H : Type} {enc : TypeId × Value → H}
theorem weight_str (e : TypeId) : ∀ (l : List ByteArray) (s : ByteArray), s ∈ l → s.size ∈ DataW.weightsAll (H := H) Try.prog e (strs l)
  | [], s, h => by cases h
  | x :: l, s, h => by
    show s.size ∈ DataW.weights Try.prog e (.lit (.string x.data.toList)) ++ DataW.weightsAll Try.prog e (strs l)
    rw [List.mem_append]
    rcases List.mem_cons.1 h with e1 | e1
    · left; subst e1; simp [DataW.weights]
    · right; exact weight_str e l s e1
theorem sl_of {α : Type} {en : α → Value} {W : World} {a : Addr} {len cap : Nat} {zs : List α} (hl : len ≤ cap) (hz : zs.length = cap) (hc : ∀ i x, zs[i]? = some x → W.cell? (a.add i) = some (en x)) : Sl en W (some a) len cap (zs.take len) := by
  refine ⟨⟨by simp; omega, fun hn => ?_⟩, hl, fun e => by cases e⟩
  obtain ⟨b, off, spot⟩ := a
  have h0 := hc 0 zs[0] (List.getElem?_eq_getElem (by omega))
  have hspot : spot = none := by simpa [Addr.add] using World.cell?_spot h0
  subst hspot
  rw [add_plain] at h0
  refine ⟨b, off, rfl, lt_of_cell h0, fun j x hx => ?_⟩
  rw [← add_plain]
  apply hc
  by_cases hj : j < len
  · rwa [List.getElem?_take_of_lt hj] at hx
  · rw [List.getElem?_eq_none (by simp; omega)] at hx; cases hx
theorem strs_len (l : List ByteArray) : (strs (H := H) l).length = l.length := by simp [strs]
theorem strs_read {W : World} {fuel : Nat} {cs : List Value} {x : DataW H × List MemPlace} (h : DataW.trod enc Try.prog W 0 (fun _ => true) true fuel 22 cs = some x) (hw : ∀ y ∈ x.1.weights Try.prog 22, y ≤ reachBytes) :
    ∃ A n c xs, cs = [.slice A n c] ∧ Sl sv W A n c xs ∧ n ≤ 140737488355328 ∧ ∀ s ∈ xs, s.size ≤ 140737488355328 := by
  rcases open_strings Try.underlying22 Try.underlying9 cells9 h with ⟨rfl, _⟩ | ⟨a, len, cap, ss, rfl, _, hl, hm, hz, hx, hcell, hwz⟩
  · exact ⟨none, 0, 0, [], rfl, Sl.empty _, by omega, fun s hs => by cases hs⟩
  · simp only [if_true] at hz
    have hd : x.1 = .slice (strs (ss.take len)) (strs (ss.drop len)) := congrArg Prod.fst hx
    rw [hd] at hw
    simp only [DataW.weights, Try.underlying22] at hw
    have h1 := hw _ (List.mem_cons_self ..)
    rw [bytes9, strs_len, strs_len, List.length_take, List.length_drop] at h1
    unfold reachBytes at *
    refine ⟨some a, len, cap, ss.take len, rfl, sl_of hl hz (fun i y hy => ?_), by omega, fun s hs => ?_⟩
    · have hi := (List.getElem?_eq_some_iff.1 hy).1
      rw [hcell i hi, List.getD_eq_getElem?_getD, hy]; rfl
    · have := hw s.size (List.mem_cons_of_mem _ (List.mem_append_left _ (weight_str 9 _ s hs)))
      omega
theorem lits_len (k : IntKind) (l : List Int) : (lits (H := H) k l).length = l.length := by simp [lits]
theorem kids_read {W : World} {fuel : Nat} {cs : List Value} {x : DataW H × List MemPlace} (h : DataW.trod enc Try.prog W 0 (fun _ => true) true fuel 26 cs = some x) (hw : ∀ y ∈ x.1.weights Try.prog 26, y ≤ reachBytes) :
    ∃ A n c xs, cs = [.slice A n c] ∧ Sl iv W A n c xs ∧ n ≤ 140737488355328 := by
  rcases open_ints Try.underlying26 Try.underlying3 cells3 h with ⟨rfl, _⟩ | ⟨a, len, cap, zs, rfl, _, hl, hm, hz, hx, hcell, hwz⟩
  · exact ⟨none, 0, 0, [], rfl, Sl.empty _, by omega⟩
  · simp only [if_true] at hz
    have hd : x.1 = .slice (lits .i64 (zs.take len)) (lits .i64 (zs.drop len)) := congrArg Prod.fst hx
    rw [hd] at hw
    simp only [DataW.weights, Try.underlying26] at hw
    have h1 := hw _ (List.mem_cons_self ..)
    rw [bytes3, lits_len, lits_len, List.length_take, List.length_drop] at h1
    unfold reachBytes at *
    refine ⟨some a, len, cap, zs.take len, rfl, sl_of hl hz (fun i y hy => ?_), by omega⟩
    have hi := (List.getElem?_eq_some_iff.1 hy).1
    rw [hcell i hi, List.getD_eq_getElem?_getD, hy]; rfl
theorem rows_read {W : World} {fuel : Nat} {cs : List Value} {x : DataW H × List MemPlace} (h : DataW.trod enc Try.prog W 0 (fun _ => true) true fuel 25 cs = some x) (hw : ∀ y ∈ x.1.weights Try.prog 25, y ≤ reachBytes) :
    ∃ A n c xs, cs = [.slice A n c] ∧ Sl hv W A n c xs ∧ n ≤ 140737488355328 := by
  rcases open_ints Try.underlying25 Try.underlying24 cells24 h with ⟨rfl, _⟩ | ⟨a, len, cap, zs, rfl, _, hl, hm, hz, hx, hcell, hwz⟩
  · exact ⟨none, 0, 0, [], rfl, Sl.empty _, by omega⟩
  · simp only [if_true] at hz
    have hd : x.1 = .slice (lits .u64 (zs.take len)) (lits .u64 (zs.drop len)) := congrArg Prod.fst hx
    rw [hd] at hw
    simp only [DataW.weights, Try.underlying25] at hw
    have h1 := hw _ (List.mem_cons_self ..)
    rw [bytes24, lits_len, lits_len, List.length_take, List.length_drop] at h1
    unfold reachBytes at *
    refine ⟨some a, len, cap, zs.take len, rfl, sl_of hl hz (fun i y hy => ?_), by omega⟩
    have hi := (List.getElem?_eq_some_iff.1 hy).1
    rw [hcell i hi, List.getD_eq_getElem?_getD, hy]; rfl
structure NdIn (W : World) (A B C : Option Addr) (n c m d k e : Nat) (xs : List ByteArray) (ks rs : List Int) : Prop where
  K : Sl sv W A n c xs
  D : Sl iv W B m d ks
  R : Sl hv W C k e rs
  hn : n ≤ 140737488355328
  hm : m ≤ 140737488355328
  hk : k ≤ 140737488355328
  hs : ∀ s ∈ xs, s.size ≤ 140737488355328
theorem weight_at {ts us : List TypeId} {ds gs : List (DataW H)} (h : (DataW.weightsEach Try.prog (ts ++ us) (ds ++ gs)).all (· ≤ reachBytes) = true) {j : Nat} {t : TypeId} {d : DataW H} (ht : ts[j]? = some t) (hd : ds[j]? = some d) :
    ∀ n ∈ d.weights Try.prog t, n ≤ reachBytes := fun n hn => by
  have := List.all_eq_true.1 h n (DataW.weights_mem_each (j := j) (by rw [List.getElem?_append_left (List.getElem?_eq_some_iff.1 ht).1]; exact ht) (by rw [List.getElem?_append_left (List.getElem?_eq_some_iff.1 hd).1]; exact hd) n hn)
  simpa using this
theorem open_node {W : World} {base : Nat} {v : Value} {d : DataW H} {ps : List MemPlace}
    (hval : Value.okWide Try.prog W .any base 28 v) (h : DataW.Trod enc Try.prog W 0 (fun _ => true) true 28 v d ps) (hw : ∀ y ∈ d.weights Try.prog 28, y ≤ reachBytes) :
    ∃ lf A B C n c m d k e xs ks rs, v = .agg #[.bool lf, .slice A n c, .slice B m d, .slice C k e] ∧ NdIn W A B C n c m d k e xs ks rs := by
  obtain ⟨cs, rfl, hsz⟩ := okWide_struct Try.underlying28 hval
  obtain ⟨fuel, hf⟩ := h
  obtain ⟨f0, f1, f2, f3, hu, t0, t1, t2, t3, o0, o1, o2, o3⟩ := u28
  obtain ⟨y0, y1, y2, y3, n, hx, hl, h0, h1, h2, h3⟩ := trod_struct4 hu hf
  have hd : d = .agg [y0.1, y1.1, y2.1, y3.1] := congrArg Prod.fst hx
  rw [hd] at hw
  simp only [DataW.weights, hu, List.map_cons, List.map_nil, DataW.weightsEach, t0, t1, t2, t3, List.mem_append] at hw
  obtain ⟨c0, c1, c2, c3, e⟩ := list4 (hl.trans cells28)
  rw [e] at h0 h1 h2 h3
  rw [t0, o0, cells4] at h0
  rw [t1, o1, cells22] at h1
  rw [t2, o2, cells26] at h2
  rw [t3, o3, cells25] at h3
  obtain ⟨lf, e0, _⟩ := DataW.trod_bool Try.underlying4 h0
  obtain ⟨A, n', c, xs, e1, s1, b1, b2⟩ := strs_read h1 (fun y hy => hw y (by simp [hy]))
  obtain ⟨B, m, d', ks, e2, s2, b3⟩ := kids_read h2 (fun y hy => hw y (by simp [hy]))
  obtain ⟨C, k, e', rs, e3, s3, b4⟩ := rows_read h3 (fun y hy => hw y (by simp [hy]))
  simp at e0 e1 e2 e3
  subst e0 e1 e2 e3
  refine ⟨lf, A, B, C, n', c, m, d', k, e', xs, ks, rs, ?_, ⟨s1, s2, s3, b1, b3, b4, b2⟩⟩
  have hcs : cs = #[.bool lf, .slice A n' c, .slice B m d', .slice C k e'] := by
    apply Array.toList_inj.1
    simpa [Value.cells] using e
  rw [hcs]
end
end Go.Proofs.Ytiojjpmkiljngaa
