/- A recorder of known steps; two recorders beside each other. -/
import Derived.Test.YtgbcncfgpdlmiaaPX
namespace Go.Proofs.Ytgbcncfgpdlmiaa
open Go.ChangeShapes Go.WideShapes Go.ChangeAt Go.RowKit Go.Maps
set_option linter.unusedVariables false
set_option linter.unusedSimpArgs false

theorem slice_hi7 (A : Option Addr) (m c k : Nat) (hk : k ≤ m) (hc : m ≤ c) (h0 : A = .none → m = 0 ∧ c = 0) (W : World) : (Instr.slice 32 (.slice A m c) .none (some (.int .i64 (k : Int))) .none).run Try.prog W = .ok (.slice A k c) W := by
  have ht' : Try.prog.underlying 32 = some (.slice (Try.prog.elem 32)) := by simp [Program.elem, Try.underlying32]
  have he : Try.prog.elem 32 = 40 := by simp [Program.elem, Try.underlying32]
  rw [run_slice_h W 32 _ _ _ ht' .i64 _ (by omega) (by omega), he, Try.sizeOf40]
  cases A with
  | none => simp [Result.andThen, sliced]
  | some a => by_cases e : c = 0 <;> simp [Result.andThen, sliced, Addr.add, e]
theorem EvS.take {W : World} {A : Option Addr} {n : Nat} {Rs : List RE} (h : EvS W A n Rs) (k : Nat) (hk : k ≤ n) : EvS W A k (Rs.take k) :=
  ⟨⟨by rw [List.length_take, h.rd.1]; omega, fun hp => by
    obtain ⟨g, off, hA, hg, hcell⟩ := h.rd.2 (by omega)
    refine ⟨g, off, hA, hg, fun j x hx => hcell j x ?_⟩
    by_cases hj : j < k
    · rwa [List.getElem?_take_of_lt hj] at hx
    · rw [List.getElem?_eq_none (by rw [List.length_take]; omega)] at hx; cases hx⟩, fun r hr => h.po r (List.mem_of_mem_take hr)⟩
/-- what steps make of a history -/
def doS (tasks : Int) (L : List Ev) (s : SE) : List Ev := addL tasks L (doW s.1.1) s.1.2.1 (doA s.1.1 s.1.2.2)
def runS (tasks : Int) (L : List Ev) (Ss : List SE) : List Ev := Ss.foldl (doS tasks) L
theorem runS_succ (tasks : Int) (L : List Ev) (Ss : List SE) (k : Nat) (s : SE) (h : Ss[k]? = some s) : runS tasks L (Ss.take (k + 1)) = doS tasks (runS tasks L (Ss.take k)) s := by
  unfold runS
  rw [List.take_add_one, h, List.foldl_append]; rfl
theorem runS_all (tasks : Int) (L : List Ev) (Ss : List SE) (k : Nat) (h : Ss.length = k) : runS tasks L (Ss.take k) = runS tasks L Ss := by rw [List.take_of_length_le (by omega)]
theorem doS_pre (tasks : Int) (L : List Ev) (s : SE) : ∃ M, doS tasks L s = L ++ M := by
  unfold doS addL
  split
  · exact ⟨_, rfl⟩
  · exact ⟨[], (List.append_nil _).symm⟩
theorem runS_pre (tasks : Int) (Ss : List SE) : ∀ L : List Ev, ∃ M, runS tasks L Ss = L ++ M := by
  induction Ss with
  | nil => exact fun L => ⟨[], (List.append_nil _).symm⟩
  | cons s r ih =>
      intro L
      obtain ⟨M, hM⟩ := doS_pre tasks L s
      obtain ⟨M2, h2⟩ := ih (doS tasks L s)
      refine ⟨M ++ M2, ?_⟩
      show runS tasks (doS tasks L s) r = _
      rw [h2, hM, List.append_assoc]
theorem runS_take (tasks : Int) (Ss : List SE) (L : List Ev) : (runS tasks L Ss).take L.length = L := by
  obtain ⟨M, h⟩ := runS_pre tasks Ss L
  rw [h, List.take_left]
/-- a history not too long -/
structure Bd (L : List Ev) (m : Nat) : Prop where
  len : L.length ≤ m
  prs : ∀ e ∈ L, e.2.2.2.2.2.2.length ≤ 100000
theorem Bd.nil : Bd [] 0 := ⟨Nat.le_refl _, fun e h => by cases h⟩
theorem Bd.doS {tasks : Int} {L : List Ev} {m : Nat} {s : SE} (h : Bd L m) (hs : s.1.2.2.2.2.2.length ≤ 100000) : Bd (doS tasks L s) (m + 1) := by
  unfold Go.Proofs.Ytgbcncfgpdlmiaa.doS addL
  split
  · refine ⟨by rw [List.length_append]; have := h.len; simp; omega, fun e he => ?_⟩
    rcases List.mem_append.1 he with he | he
    · exact h.prs e he
    · obtain rfl := List.mem_singleton.1 he
      show (doA s.1.1 s.1.2.2).2.2.2.length ≤ 100000
      unfold doA
      split
      · exact Nat.zero_le _
      · exact hs
  · exact ⟨by have := h.len; omega, h.prs⟩
theorem Bd.lenR {L : List Ev} {m : Nat} {Rs : List RE} (h : Bd L m) (hm : Rs.map Prod.fst = L) (h2 : m ≤ 100000) : Rs.length ≤ 100000 := by
  have := h.len
  rw [← hm, List.length_map] at this
  omega
theorem Bd.np {W : World} {B n m : Nat} {v : Value} {Rs : List RE} {L : List Ev} (h : Bd L m) (hm : Rs.map Prod.fst = L) (ho : EvO W B v n Rs) : ∀ r ∈ Rs, r.2.2.1 ≤ 100000 := ho.np (by rw [hm]; exact h.prs)
section
variable {w0 W W' : World} {tasks : Int} {p q n : Nat} {L M : List Ev} {tv : Value} {Tr : List RE}
/-- a recorder of a known history -/
def R1 (w0 : World) (tasks : Int) (p : Nat) (L : List Ev) (W : World) : Prop := ∃ v Rs, RcAt W w0.heap.size p tasks v Rs ∧ Rs.map Prod.fst = L ∧ Below w0.heap.size w0 W
theorem R1.later (h : R1 w0 tasks p L W) (hb : Below W.heap.size W W') : R1 w0 tasks p L W' := by
  obtain ⟨v, Rs, h1, h2, h3⟩ := h
  exact ⟨v, Rs, h1.later hb, h2, stepB h3 hb⟩
theorem R1.below (h : R1 w0 tasks p L W) : Below w0.heap.size w0 W := by
  obtain ⟨v, Rs, h1, h2, h3⟩ := h
  exact h3
theorem FrR.bel2 {v : Value} {Rs : List RE} (h : RcAt W w0.heap.size p tasks v Rs) (hb : Below w0.heap.size w0 W) (hf : FrR W W' p v) : Below w0.heap.size w0 W' :=
  hf.below hb hb.size h.hp (fun k e => (h.row.lt k e).1) (.inr trivial)
/-- a step done to a recorder -/
def ROk (e : Ending) : Prop := ∃ c : Int, e = .returned (.int .i64 c)
theorem r1_do {m : Nat} (h : R1 w0 tasks p L W) (h6 : tasks ≤ 6) (hl : Bd L m) (hm : m ≤ 100000) (wh t er : Int) (fo : Bool) (va : ByteArray) (ps : List Pr) (A : Option Addr) (n c : Nat) (hp : ∀ W, Below w0.heap.size w0 W → PO W (A, n, c) ps) (hn : n ≤ 100000) :
    Calls Try.prog 23 #[.agg #[.int .u8 wh, .int .i64 t, .int .i64 er, .bool fo, .string va, .slice A n c], .pointer (some ⟨p, 0, none⟩)] W fun e W' => (∃ c : Int, e = .returned (.int .i64 c) ∧ c = addC tasks L (doW wh) t) ∧ R1 w0 tasks p (doS tasks L ((wh, t, er, fo, va, ps), (A, n, c))) W' := by
  obtain ⟨v, Rs, h1, h2, h3⟩ := h
  refine (do_any w0.heap.size p tasks v Rs W h1 h3.size h6 wh t er fo va ps A n c (fun W' hf => hp W' (FrR.bel2 h1 h3 hf)) hn (hl.lenR h2 hm)).mono ?_
  rintro e W' ⟨rfl, v', Rs', k1, k2, k3, k4⟩
  rw [h2] at k2
  exact ⟨⟨_, rfl, by rw [h2]⟩, v', Rs', k1, k2, FrR.bel2 h1 h3 k3⟩
theorem r1_events {m : Nat} (h : R1 w0 tasks p L W) (hl : Bd L m) (hm : m ≤ 100000) : Calls Try.prog 15 #[.pointer (some ⟨p, 0, none⟩)] W (OwdEnd L W) := by
  obtain ⟨v, Rs, h1, h2, h3⟩ := h
  have := events_any _ p tasks v Rs W h1 (hl.lenR h2 hm) (hl.np h2 h1.row)
  rw [h2] at this
  exact this
/-- two recorders beside each other, and a history that was told -/
structure R2i (w0 : World) (tasks : Int) (p : Nat) (v : Value) (Rs : List RE) (q : Nat) (v2 : Value) (Rs2 : List RE) (tv : Value) (n : Nat) (Tr : List RE) (W : World) : Prop where
  r : RcAt W w0.heap.size p tasks v Rs
  c : RcAt W w0.heap.size q tasks v2 Rs2
  ne : q ≠ p
  d : ∀ k, v2.ownBlock = some k → v.ownBlock ≠ some k
  t : EvO W w0.heap.size tv n Tr
  dt : ∀ k, tv.ownBlock = some k → v.ownBlock ≠ some k ∧ v2.ownBlock ≠ some k
  b : Below w0.heap.size w0 W
variable {v v2 v' : Value} {Rs Rs2 Rs' : List RE}
theorem R2i.swap (h : R2i w0 tasks p v Rs q v2 Rs2 tv n Tr W) : R2i w0 tasks q v2 Rs2 p v Rs tv n Tr W :=
  ⟨h.c, h.r, h.ne.symm, fun k e e2 => h.d k e2 e, h.t, fun k e => (h.dt k e).symm, h.b⟩
theorem R2i.later (h : R2i w0 tasks p v Rs q v2 Rs2 tv n Tr W) (hb : Below W.heap.size W W') : R2i w0 tasks p v Rs q v2 Rs2 tv n Tr W' :=
  ⟨h.r.later hb, h.c.later hb, h.ne, h.d, h.t.later hb, h.dt, stepB h.b hb⟩
theorem R2i.step (h : R2i w0 tasks p v Rs q v2 Rs2 tv n Tr W) (hr : RcAt W' w0.heap.size p tasks v' Rs') (hf : FrR W W' p v) (hn : Nw W v v') : R2i w0 tasks p v' Rs' q v2 Rs2 tv n Tr W' := by
  refine ⟨hr, ⟨h.c.hp, (hf.block q h.c.blk.lt h.ne (h.r.row.row.nq h.c.blk (by decide))).trans h.c.blk, h.c.row.frR h.r hf fun k e => ⟨fun e2 => ?_, h.d k e⟩⟩, h.ne, fun k e e2 => ?_, h.t.frR h.r hf fun k e => ⟨fun e2 => ?_, (h.dt k e).1⟩, fun k e => ⟨fun e2 => ?_, (h.dt k e).2⟩, FrR.bel2 h.r h.b hf⟩
  · subst e2; exact h.c.row.row.nq h.r.blk (by decide) e
  · rcases hn k e2 with h3 | h3
    · exact h.d k e h3
    · have := (h.c.row.lt k e).2; omega
  · subst e2; exact h.t.row.nq h.r.blk (by decide) e
  · rcases hn k e2 with h3 | h3
    · exact (h.dt k e).1 h3
    · have := (h.t.lt k e).2; omega
def R2 (w0 : World) (tasks : Int) (p : Nat) (L : List Ev) (q : Nat) (M : List Ev) (tv : Value) (n : Nat) (Tr : List RE) (W : World) : Prop := ∃ v Rs v2 Rs2, R2i w0 tasks p v Rs q v2 Rs2 tv n Tr W ∧ Rs.map Prod.fst = L ∧ Rs2.map Prod.fst = M
theorem R2.swap (h : R2 w0 tasks p L q M tv n Tr W) : R2 w0 tasks q M p L tv n Tr W := by
  obtain ⟨v, Rs, v2, Rs2, h1, h2, h3⟩ := h
  exact ⟨v2, Rs2, v, Rs, h1.swap, h3, h2⟩
theorem R2.later (h : R2 w0 tasks p L q M tv n Tr W) (hb : Below W.heap.size W W') : R2 w0 tasks p L q M tv n Tr W' := by
  obtain ⟨v, Rs, v2, Rs2, h1, h2, h3⟩ := h
  exact ⟨v, Rs, v2, Rs2, h1.later hb, h2, h3⟩
theorem R2.below (h : R2 w0 tasks p L q M tv n Tr W) : Below w0.heap.size w0 W := by
  obtain ⟨v, Rs, v2, Rs2, h1, h2, h3⟩ := h
  exact h1.b
theorem R2.told (h : R2 w0 tasks p L q M tv n Tr W) : EvO W w0.heap.size tv n Tr := by
  obtain ⟨v, Rs, v2, Rs2, h1, h2, h3⟩ := h
  exact h1.t
theorem R2.r1 (h : R2 w0 tasks p L q M tv n Tr W) : R1 w0 tasks p L W := by
  obtain ⟨v, Rs, v2, Rs2, h1, h2, h3⟩ := h
  exact ⟨v, Rs, h1.r, h2, h1.b⟩
theorem r2_do {m : Nat} (h : R2 w0 tasks p L q M tv n Tr W) (h6 : tasks ≤ 6) (hl : Bd L m) (hm : m ≤ 100000) (wh t er : Int) (fo : Bool) (va : ByteArray) (ps : List Pr) (A : Option Addr) (n2 c : Nat) (hp : ∀ W, Below w0.heap.size w0 W → PO W (A, n2, c) ps) (hn : n2 ≤ 100000) :
    Calls Try.prog 23 #[.agg #[.int .u8 wh, .int .i64 t, .int .i64 er, .bool fo, .string va, .slice A n2 c], .pointer (some ⟨p, 0, none⟩)] W fun e W' => (∃ c : Int, e = .returned (.int .i64 c)) ∧ R2 w0 tasks p (doS tasks L ((wh, t, er, fo, va, ps), (A, n2, c))) q M tv n Tr W' := by
  obtain ⟨v, Rs, v2, Rs2, h1, h2, h3⟩ := h
  refine (do_any w0.heap.size p tasks v Rs W h1.r h1.b.size h6 wh t er fo va ps A n2 c (fun W' hf => hp W' (FrR.bel2 h1.r h1.b hf)) hn (hl.lenR h2 hm)).mono ?_
  rintro e W' ⟨rfl, v', Rs', k1, k2, k3, k4⟩
  rw [h2] at k2
  exact ⟨⟨_, rfl⟩, v', Rs', v2, Rs2, h1.step k1 k3 k4, k2, h3⟩
/-- the copy, and what was told ahead -/
theorem r1_copy {m : Nat} (h : R1 w0 tasks p L W) (hl : Bd L m) (hm : m ≤ 100000) : Calls Try.prog 16 #[.pointer (some ⟨p, 0, none⟩)] W fun e W' => ∃ q, e = .returned (.pointer (some ⟨q, 0, none⟩)) ∧ R2 w0 tasks p L q L (.slice none 0 0) 0 [] W' := by
  obtain ⟨v, Rs, h1, h2, h3⟩ := h
  refine (copy_any _ p tasks v Rs W h1 (hl.lenR h2 hm) (hl.np h2 h1.row)).mono ?_
  rintro e W' ⟨q, v2, Rs2, rfl, k1, k2, k3⟩
  refine ⟨q, rfl, v, Rs, v2, Rs2, ⟨h1.later k3, k1.base h3.size, fun e => ?_, fun k e e2 => ?_, EvO.nil _ _, (fun k e => by cases e), stepB h3 k3⟩, h2, k2.trans h2⟩
  · have := k1.hp; have := h1.blk.lt; omega
  · have := (k1.row.lt k e).1; have := (h1.row.lt k e2).2; omega
theorem R2.tell {tv' : Value} {n' : Nat} {Tr' : List RE} (h : R2 w0 tasks p L q M tv n Tr W) (hb : Below W.heap.size W W') (ho : EvO W' W.heap.size tv' n' Tr') : R2 w0 tasks p L q M tv' n' Tr' W' := by
  obtain ⟨v, Rs, v2, Rs2, h1, h2, h3⟩ := h
  have hs := h1.b.size
  have h4 := h1.later hb
  refine ⟨v, Rs, v2, Rs2, ⟨h4.r, h4.c, h4.ne, h4.d, ho.base hs, fun k e => ⟨fun e2 => ?_, fun e2 => ?_⟩, h4.b⟩, h2, h3⟩
  · have := (ho.lt k e).1; have := (h1.r.row.lt k e2).2; omega
  · have := (ho.lt k e).1; have := (h1.c.row.lt k e2).2; omega
end
end Go.Proofs.Ytgbcncfgpdlmiaa
