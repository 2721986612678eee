/- Rows of steps that the call made; steps run one list behind the other. -/
import Derived.Test.YtgjponobiplipaaQ2
import Derived.Laws.AppendOwnNone
namespace Go.Proofs.Ytgjponobiplipaa
open Go.ChangeShapes Go.WideShapes Go.ChangeAt Go.RowKit Go.Maps
set_option linter.unusedVariables false
set_option linter.unusedSimpArgs false

theorem s45info : (Try.prog.info? 45).map (fun i => (i.zero, i.size, i.bytes)) = some (some (.agg #[.bool false, .int .u8 0, .int .u64 0, .int .i64 0]), 4, 32) := by kernel_rfl
def stvs : List Stp → List Value
  | [] => []
  | s :: l => stv s ++ stvs l
theorem stvs_len : ∀ l : List Stp, (stvs l).length = l.length * 4
  | [] => rfl
  | v :: l => by simp [stvs, stv, stvs_len l]; omega
theorem stvs_app : ∀ (l m : List Stp), stvs (l ++ m) = stvs l ++ stvs m
  | [], m => rfl
  | v :: l, m => by simp [stvs, stvs_app l m]
theorem stvs_at : ∀ (l : List Stp) (j i : Nat), j < l.length → i < 4 → (stvs l)[j * 4 + i]? = (stv (l.getD j stp0))[i]?
  | [], j, i, h, _ => by simp at h
  | v :: l, 0, i, h, hi => by
    show (stv v ++ stvs l)[0 * 4 + i]? = _
    rw [List.getElem?_append_left (by simp [stv]; omega)]
    simp
  | v :: l, j + 1, i, h, hi => by
    have ih := stvs_at l j i (by simp at h; omega) hi
    show (stv v ++ stvs l)[(j + 1) * 4 + i]? = _
    rw [List.getElem?_append_right (by simp [stv]; omega), show (j + 1) * 4 + i - (stv v).length = j * 4 + i from by simp [stv]; omega, ih]
    rfl
theorem stvs_one : ∀ (l : List Stp), ∀ u ∈ stvs l, u.oneCell' = true
  | [], u, h => by cases h
  | v :: l, u, h => by
    rcases List.mem_append.1 (show u ∈ stv v ++ stvs l from h) with h | h
    · simp [stv] at h
      rcases h with rfl | rfl | rfl | rfl <;> rfl
    · exact stvs_one l u h
def SOwn (W : World) (B : Nat) (v : Value) (n : Nat) (L : List Stp) : Prop := L.length = n ∧ W.ownsRow B 45 4 v n (stvs L)
section
variable {W W' : World} {B n : Nat} {v : Value} {L : List Stp}
theorem SOwn.sl (h : SOwn W B v n L) : ∃ A c, v = .slice A n c ∧ n ≤ c ∧ (A = none → n = 0 ∧ c = 0) := by
  rcases h.2.2 with ⟨rfl, h2⟩ | ⟨g, cap, cur, rfl, hB, hg, hn, hm, hs, ht⟩
  · exact ⟨none, 0, by rw [h2], by omega, fun _ => ⟨h2, rfl⟩⟩
  · exact ⟨_, cap, rfl, hn, fun h => by cases h⟩
theorem SOwn.fresh {g : Nat} (W : World) (hB : B ≤ W.heap.size) (hk : W.heap.size = g) : SOwn (W.alloc (.cells #[] 45)) B (.slice (some ⟨g, 0, none⟩) 0 0) 0 [] := by
  subst hk
  refine ⟨rfl, rfl, .inr ⟨W.heap.size, 0, #[], rfl, hB, ?_, by omega, by simp, ?_, ?_⟩⟩
  · simpa using heap_alloc_new W (.cells #[] 45)
  · simp [stvs]
  · simp [stvs]
theorem SOwn.later (h : SOwn W B v n L) (hb : Below W.heap.size W W') : SOwn W' B v n L := ⟨h.1, World.ownsRow.kept h.2 (row := none) ⟨hb.os, hb.tape, hb.output, hb.size, fun k hk _ => hb.block k hk⟩ (by cases v.ownBlock <;> simp)⟩
theorem SOwn.lt (h : SOwn W B v n L) : ∀ k, v.ownBlock = some k → B ≤ k ∧ k < W.heap.size := World.ownsRow.lt h.2
theorem SOwn.tag (h : SOwn W B v n L) : ∀ k, v.ownBlock = some k → ∃ cur, W.heap[k]? = some (.cells cur 45 (0, 0)) := fun k hk => by
  rcases h.2.2 with ⟨rfl, _⟩ | ⟨g, cap, cur, rfl, hb, hg, _⟩
  · cases hk
  · cases hk; exact ⟨cur, hg⟩
theorem SOwn.steps {A : Option Addr} {c : Nat} (h : SOwn W B (.slice A n c) n L) (hL : ∀ s ∈ L, StpOk s) : Steps W.heap.size W A n L := by
  refine ⟨h.1, fun hn => ?_⟩
  have hO := h.2
  have hlt := h.lt
  rcases h.2.2 with ⟨e, h2⟩ | ⟨g, cap, cur, e, hB, hg, _⟩
  · omega
  · cases e
    refine ⟨g, 0, rfl, (Array.getElem?_eq_some_iff.1 hg).1, fun j hj => ⟨?_, ?_⟩⟩
    · have hc : ∀ i, i < 4 → W.cell? ⟨g, j * 4 + i, none⟩ = (stv (L.getD j stp0))[i]? := fun i hi => by
        rw [hO.cellAt (j * 4 + i) (by omega), stvs_at L j i (by rw [h.1]; exact hj) hi]
      rw [Nat.zero_add]
      exact ⟨hc 0 (by omega), hc 1 (by omega), hc 2 (by omega), hc 3 (by omega)⟩
    · refine hL _ ?_
      rw [List.getD_eq_getElem?_getD, List.getElem?_eq_getElem (by rw [h.1]; exact hj)]
      exact List.getElem_mem _
end
theorem LaAt.row {W W' : World} {B B' p b n : Nat} {C : List Ct} {v : Value} {L : List Stp} (h : LaAt W B p b C) (o : SOwn W B' v n L) (hg : W.grownBy W' v.ownBlock) : LaAt W' B p b C :=
  ⟨h.hp, h.blk.grown hg (fun e => by
    obtain ⟨cur, hc⟩ := o.tag p e.symm
    have h2 : W.heap[p]? = some (.cells #[.map (some b)] 56 (0, 0)) := h.blk
    rw [h2] at hc; cases hc), ⟨h.own.1, h.own.2.kept hg (fun e => by
    obtain ⟨cur, hc⟩ := o.tag b e.symm
    obtain ⟨es, clock, hm, _⟩ := h.own.2
    rw [hm] at hc; cases hc)⟩, h.ok⟩
section
variable {w : World} {ops : Array Oper} {rest : List Oper} {o : Oper} {a : Act} {Q : Exit → Act → World → Prop}
/-- 'append(s, x...)' at steps -/
theorem append_st (hgd : o.guard = .none) (s x : Operand)
    (ho : o.op = .call { callee := .builtin .append, args := #[s, x], argTypes := #[38, 38] })
    (B : Nat) (v : Value) (n : Nat) (xs : List Stp) (hs : a.eval s = v) (hown : SOwn w B v n xs)
    (A : Option Addr) (m c : Nat) (ys : List Stp) (hx : a.eval x = .slice A m c) (hy : Steps w.heap.size w A m ys) (hnil : A = .none → m = 0 ∧ c = 0) (hb : n + m ≤ 2000) (hbase : B ≤ w.heap.size)
    (h : ∀ v' w', SOwn w' B v' (n + m) (xs ++ ys) → w.grownBy w' v.ownBlock → wpList Try.prog ops Q rest (a.put o.dst v') w') :
    wpList Try.prog ops Q (o :: rest) a w := by
  obtain ⟨i0, hi, hz0, hz1, hz2⟩ := info_parts s45info
  cases A with
  | none =>
    obtain ⟨rfl, rfl⟩ := hnil rfl
    refine wpList_append_own_none hgd s x 38 ho B 45 i0 4 Try.underlying38 hi v n _ hs hown.2 hx ?_
    have hys : ys = [] := List.eq_nil_of_length_eq_zero hy.1
    exact h v w (by rw [hys, List.append_nil]; exact hown) (World.grownBy.refl _ _)
  | some ad =>
    have hcell : ∀ j u, (stvs ys)[j]? = some u → w.cell? (ad.add j) = some u := fun j u hu => by
      have hj : j < (stvs ys).length := (List.getElem?_eq_some_iff.1 hu).1
      rw [stvs_len, hy.1] at hj
      obtain ⟨g, off, e, _, hc⟩ := hy.2 (by omega)
      cases e
      have h4 : j / 4 < m := by omega
      obtain ⟨hcc, _⟩ := hc (j / 4) h4
      rw [add_plain]
      have ej : j = j / 4 * 4 + j % 4 := by omega
      have hi := stvs_at ys (j / 4) (j % 4) (by rw [hy.1]; exact h4) (by omega)
      rw [← ej] at hi
      rw [hi] at hu
      generalize ys.getD (j / 4) stp0 = s at *
      have hr : j % 4 = 0 ∨ j % 4 = 1 ∨ j % 4 = 2 ∨ j % 4 = 3 := by omega
      rcases hr with hr | hr | hr | hr
      · rw [hr] at hu; rw [show off + j = off + j / 4 * 4 from by omega, hcc.c0]; exact hu
      · rw [hr] at hu; rw [show off + j = off + j / 4 * 4 + 1 from by omega, hcc.c1]; exact hu
      · rw [hr] at hu; rw [show off + j = off + j / 4 * 4 + 2 from by omega, hcc.c2]; exact hu
      · rw [hr] at hu; rw [show off + j = off + j / 4 * 4 + 3 from by omega, hcc.c3]; exact hu
    exact wpList_append_own w hgd s x 38 ho B 45 i0 _ 4 32 Try.underlying38 hi hz0 hz1 hz2 rfl (by decide) v n _ hs hown.2 ad m c (stvs ys) hx (by rw [stvs_len, hy.1]) hcell (fun u hu => stvs_one ys u hu) (by unfold maxLen; omega) (by omega) hbase (fun v' w' h1 h2 _ => h v' w' ⟨by rw [List.length_append, hown.1, hy.1], by rw [stvs_app]; exact h1⟩ h2)
end
theorem run_left (S T : List Stp) (C : List Ct) : ∀ k, k ≤ S.length → runC (S ++ T) C k = runC S C k
  | 0, _ => rfl
  | k + 1, h => by
    show doC (runC (S ++ T) C k) _ = doC (runC S C k) _
    rw [run_left S T C k (by omega), List.getD_eq_getElem?_getD, List.getD_eq_getElem?_getD, List.getElem?_append_left (by omega)]
theorem run_right (S T : List Stp) (C : List Ct) : ∀ k, runC (S ++ T) C (S.length + k) = runC T (runC S C S.length) k
  | 0 => run_left S T C _ (Nat.le_refl _)
  | k + 1 => by
    have e : (S ++ T).getD (S.length + k) stp0 = T.getD k stp0 := by
      rw [List.getD_eq_getElem?_getD, List.getD_eq_getElem?_getD, List.getElem?_append_right (Nat.le_add_right _ _), Nat.add_sub_cancel_left]
    show doC (runC (S ++ T) C (S.length + k)) ((S ++ T).getD (S.length + k) stp0) = doC (runC T _ k) (T.getD k stp0)
    rw [run_right S T C k, e]
section
variable {H : Type} {enc : TypeId × Value → H}
theorem bytes45 : Try.prog.bytesOf 45 = 32 := by kernel_rfl
theorem weight_at {ts us : List TypeId} {ds gs : List (DataW H)} (h : (DataW.weightsEach Try.prog (ts ++ us) (ds ++ gs)).all (· ≤ reachBytes) = true) {j : Nat} {t : TypeId} {d : DataW H} (ht : ts[j]? = some t) (hd : ds[j]? = some d) :
    ∀ n ∈ d.weights Try.prog t, n ≤ reachBytes := fun n hn => by
  have := List.all_eq_true.1 h n (DataW.weights_mem_each (j := j) (by rw [List.getElem?_append_left (List.getElem?_eq_some_iff.1 ht).1]; exact ht) (by rw [List.getElem?_append_left (List.getElem?_eq_some_iff.1 hd).1]; exact hd) n hn)
  simpa using this
open Go.Deep in
theorem len_weight {W : World} {A : Option Addr} {n c : Nat} {d : DataW H} {ps : List MemPlace} (h : DataW.Trod enc Try.prog W 0 (fun _ => true) true 38 (.slice A n c) d ps) (hw : ∀ y ∈ d.weights Try.prog 38, y ≤ reachBytes) : n ≤ 140737488355328 := by
  obtain ⟨fuel, hf⟩ := h
  rcases open_slice Try.underlying38 hf with ⟨hcs, _⟩ | ⟨a, len, cap, m, n1, D, Pl, hcs, hb, hl, hm, hmm, hx, hi⟩
  · simp [Value.cells] at hcs
    omega
  · simp [Value.cells] at hcs
    obtain ⟨rfl, rfl, rfl⟩ := hcs
    have hd : d = .slice ((List.range n).map D) ((List.range (m - n)).map fun j => D (n + j)) := congrArg Prod.fst hx
    rw [hd] at hw
    simp only [DataW.weights, Try.underlying38] at hw
    have h1 := hw _ (List.mem_cons_self ..)
    rw [bytes45] at h1
    unfold reachBytes at h1
    simp at h1
    omega
end
theorem Steps.all {n₀ n : Nat} {W : World} {A : Option Addr} {S : List Stp} (h : Steps n₀ W A n S) : ∀ s ∈ S, StpOk s := fun s hs => by
  obtain ⟨i, hi, rfl⟩ := List.getElem_of_mem hs
  have hn : i < n := by rw [← h.1]; exact hi
  obtain ⟨g, off, _, _, hc⟩ := h.2 (by omega)
  have := (hc i hn).2
  rw [List.getD_eq_getElem?_getD, List.getElem?_eq_getElem hi] at this
  exact this
theorem all_app {L M : List Stp} (h1 : ∀ s ∈ L, StpOk s) (h2 : ∀ s ∈ M, StpOk s) : ∀ s ∈ L ++ M, StpOk s := fun s hs => by
  rcases List.mem_append.1 hs with h | h
  · exact h1 s h
  · exact h2 s h
end Go.Proofs.Ytgjponobiplipaa
