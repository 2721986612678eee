/- A task's transactions: Add, Of, Len, Copy. -/
import Derived.Test.YtkgdmdcnhbaidaaDoorS
import Derived.Test.YtkgdmdcnhbaidaaDoorSl
import Derived.Deep.AppendLies
namespace Go.Proofs.YtkgdmdcnhbaidaaDoor
open Go.ChangeShapes Go.WideShapes Go.ChangeAt Go.RowKit
set_option linter.unusedVariables false
set_option linter.unusedSimpArgs false

/-- a row lies where it lay, or anew -/
def Nw (w : World) (v v' : Value) : Prop := ∀ j, v'.ownBlock = some j → v.ownBlock = some j ∨ w.heap.size ≤ j
theorem append_lies_sl {α : Type} {enc : α → Value} {P : Program} {t e : TypeId} {bytes : Nat} {w : World} {ops : Array Oper} {rest : List Oper} {o : Oper} {a : Act} {Q : Exit → Act → World → Prop} (E : Elem P t e enc bytes) (hgd : o.guard = .none) (s x : Operand)
    (ho : o.op = .call { callee := .builtin .append, args := #[s, x], argTypes := #[t, t] })
    (B : Nat) (v : Value) (n : Nat) (xs : List α) (hs : a.eval s = v) (hown : Ow enc w B e v n xs)
    (g0 : Nat) (y : α) (hx : a.eval x = .slice (some ⟨g0, 0, none⟩) 1 1) (hy : w.cell? ⟨g0, 0, none⟩ = some (enc y)) (hb : n + 1 ≤ 2000000) (hbb : bytes ≤ 1000) (hbase : B ≤ w.heap.size)
    (h : ∀ A' c' w', Ow enc w' B e (.slice A' (n + 1) c') (n + 1) (xs ++ [y]) → w.grownBy w' v.ownBlock → Nw w v (.slice A' (n + 1) c') → wpList P ops Q rest (a.put o.dst (.slice A' (n + 1) c')) w') :
    wpList P ops Q (o :: rest) a w := by
  obtain ⟨i0, z, hi, hz0, hz1, hz2, hz3⟩ := E.info
  have hbt : (n + 1) * bytes ≤ 2000000 * 1000 := Nat.mul_le_mul hb hbb
  refine wpList_append_lies w hgd s x t ho B e i0 z 1 bytes E.und hi hz0 hz1 hz2 hz3 (by decide) v n (xs.map enc) hs hown ⟨g0, 0, none⟩ 1 1 [enc y] hx rfl (fun j u hu => ?_) (fun u hu => ?_) (by decide) (by unfold maxLen; omega) (by omega) hbase w.heap.size rfl (fun g cap w' h1 h2 h3 _ => h _ _ _ ?_ h2 (fun k hk => ?_))
  · match j, hu with
    | 0, hu => simp only [List.getElem?_cons_zero, Option.some.injEq] at hu; subst hu; exact hy
  · simp only [List.mem_singleton] at hu; subst hu; exact E.one y
  · show World.ownsRow _ _ _ _ _ _ _
    rw [List.map_append]; exact h1
  · have e : k = g := by simpa [Value.ownBlock] using hk.symm
    subst e
    rcases h3 with h3 | h3
    · exact .inl h3
    · exact .inr (by omega)
def iv (x : Int) : Value := .int .i64 x
theorem elemI : Elem Tryd.prog 55 3 iv 8 where
  und := Tryd.underlying55
  info := by
    have h : (Tryd.prog.info? 3).map (fun i => (i.zero, i.size, i.bytes)) = some (some (.int .i64 0), 1, 8) := by kernel_rfl
    cases hi : Tryd.prog.info? 3 with
    | none => rw [hi] at h; cases h
    | some i => rw [hi] at h; simp only [Option.map_some, Option.some.injEq, Prod.mk.injEq] at h; exact ⟨i, _, rfl, h.1, h.2.1, h.2.2, rfl⟩
  one := fun _ => rfl
/-- a task's transactions as they lie -/
structure TxAt (W : World) (B p : Nat) (v : Value) (L : List Int) : Prop where
  hp : B ≤ p
  blk : Blk W p #[v] 63
  row : Ow iv W B 3 v L.length L
theorem TxAt.later {W W' : World} {B p : Nat} {v : Value} {L : List Int} (h : TxAt W B p v L) (hb : Below W.heap.size W W') : TxAt W' B p v L := ⟨h.hp, h.blk.later hb, h.row.later hb⟩
theorem TxAt.ne {W : World} {B p : Nat} {v : Value} {L : List Int} (h : TxAt W B p v L) : v.ownBlock ≠ some p := fun e => by
  obtain ⟨c, hc⟩ := Ow.tag h.row p e
  have := h.blk
  unfold Blk at this
  rw [hc] at this
  cases this
/-- all but two blocks stay -/
structure FrX (w w' : World) (p : Nat) (r : Option Nat) : Prop where
  os : w'.os = w.os
  tape : w'.tape = w.tape
  output : w'.output = w.output
  size : w.heap.size ≤ w'.heap.size
  block : ∀ k, k < w.heap.size → k ≠ p → r ≠ some k → w'.heap[k]? = w.heap[k]?
theorem ow_keep {α : Type} {enc : α → Value} {W W' : World} {B e n : Nat} {v : Value} {xs : List α} (o : Ow enc W B e v n xs) (hk : ∀ k, v.ownBlock = some k → W'.heap[k]? = W.heap[k]?) : Ow enc W' B e v n xs := by
  refine ⟨o.1, ?_⟩
  rcases o.2 with h1 | ⟨g, cap, cur, e, hB, hg, rest⟩
  · exact .inl h1
  · exact .inr ⟨g, cap, cur, e, hB, (hk g (by rw [e]; rfl)).trans hg, rest⟩
theorem TxAt.fr {W W' : World} {B p q : Nat} {v u : Value} {L : List Int} (h : TxAt W B p v L) (hf : FrX W W' q u.ownBlock) (h1 : p ≠ q) (h2 : u.ownBlock ≠ some p) (h3 : v.ownBlock ≠ some q) (h4 : ∀ j, v.ownBlock = some j → u.ownBlock ≠ some j) : TxAt W' B p v L :=
  ⟨h.hp, (hf.block p h.blk.lt h1 h2).trans h.blk, ow_keep h.row (fun k ek => hf.block k (Ow.lt h.row k ek).2 (fun e => h3 (e ▸ ek)) (h4 k ek))⟩
theorem FrX.below {w W W' : World} {B p : Nat} {r : Option Nat} (hf : FrX W W' p r) (hb : Below B w W) (hB : B ≤ W.heap.size) (hp : B ≤ p) (hr : ∀ j, r = some j → B ≤ j) : Below B w W' :=
  ⟨hf.os.trans hb.os, hf.tape.trans hb.tape, hf.output.trans hb.output, Nat.le_trans hb.size hf.size, fun k hk => (hf.block k (by omega) (by omega) (fun e => by have := hr k e; omega)).trans (hb.block k hk)⟩
set_option maxRecDepth 100000 in
set_option maxHeartbeats 4000000 in
theorem add_nil (x : Int) (w : World) : Calls Tryd.prog 26 #[.pointer none, .int .i64 x] w fun e w' => e = .returned (.tuple #[]) ∧ w' = w := by
  go_enter Tryd.func26, Tryd.ntmps26
  go_wp2
  refine bodyPost_end (results_none rfl _ _ _) rfl ?_
  exact ⟨rfl, rfl⟩
theorem len_nil (w : World) : Calls Tryd.prog 28 #[.pointer none] w fun e w' => e = .returned (.int .i64 0) ∧ w' = w := by
  go_enter Tryd.func28, Tryd.ntmps28
  go_wp2
  go_ret
  exact ⟨rfl, rfl⟩
theorem copy_nil (w : World) : Calls Tryd.prog 29 #[.pointer none] w fun e w' => e = .returned (.pointer none) ∧ w' = w := by
  go_enter Tryd.func29, Tryd.ntmps29
  go_wp2
  go_ret
  exact ⟨rfl, rfl⟩
theorem len_any (p B : Nat) (v : Value) (L : List Int) (w : World) (h : TxAt w B p v L) : Calls Tryd.prog 28 #[.pointer (some ⟨p, 0, none⟩)] w fun e w' => e = .returned (.int .i64 (L.length : Nat)) ∧ w' = w := by
  obtain ⟨A, c, rfl, _⟩ := Ow.sl h.row
  have c0 := h.blk.cell 0
  simp only [List.getElem?_toArray, List.getElem?_cons_zero, List.getElem?_cons_succ] at c0
  clear h
  go_enter Tryd.func28, Tryd.ntmps28
  go_wp2
  go_ret
  exact ⟨rfl, rfl⟩
theorem idx55 (g off m c k : Nat) (i : Int) (hi : i = (k : Int)) (h : k < m) (W : World) : (Instr.indexAt 55 (.slice (some ⟨g, off, none⟩) m c) (.int .i64 i)).run Tryd.prog W = .ok (.pointer (some ⟨g, off + k, none⟩)) W := by
  subst hi
  have h1 : (0 : Int) ≤ (k : Int) ∧ (k : Int) < (m : Int) := by omega
  go_simp
def ofX (L : List Int) (n : Int) : Int × Bool := if 1 ≤ n ∧ n ≤ (L.length : Int) then (L.getD (n - 1).toNat 0, true) else (0, false)
set_option maxRecDepth 100000 in
set_option maxHeartbeats 4000000 in
theorem of_nil (n : Int) (w : World) : Calls Tryd.prog 27 #[.pointer none, .int .i64 n] w fun e w' => e = .returned (.tuple #[.int .i64 0, .bool false]) ∧ w' = w := by
  by_cases h1 : n < 1
  · have d1 : decide (n < 1) = true := decide_eq_true h1
    clear h1
    go_enter Tryd.func27, Tryd.ntmps27
    go_wp2
    go_ret2
    exact ⟨rfl, rfl⟩
  · have d1 : decide (n < 1) = false := decide_eq_false h1
    have d2 : decide (0 < n) = true := decide_eq_true (by omega)
    clear h1
    go_enter Tryd.func27, Tryd.ntmps27
    go_wp2_with fail
    refine (len_nil w).mono ?_
    rintro e w1 ⟨rfl, rfl⟩
    go_wp2
    go_ret2
    exact ⟨rfl, rfl⟩
set_option maxRecDepth 100000 in
set_option maxHeartbeats 4000000 in
theorem txof_any (p B : Nat) (v : Value) (L : List Int) (n : Int) (w : World) (h : TxAt w B p v L) (hn : -9223372036854775808 ≤ n ∧ n ≤ 9223372036854775807) : Calls Tryd.prog 27 #[.pointer (some ⟨p, 0, none⟩), .int .i64 n] w fun e w' => e = .returned (.tuple #[.int .i64 (ofX L n).1, .bool (ofX L n).2]) ∧ w' = w := by
  have HL := Lib.hid (len_any p B v L w h)
  unfold ofX
  by_cases h1 : n < 1
  · have d1 : decide (n < 1) = true := decide_eq_true h1
    rw [if_neg (by omega)]
    clear h1 h hn
    go_enter Tryd.func27, Tryd.ntmps27
    go_wp2
    go_ret2
    exact ⟨rfl, rfl⟩
  · have d1 : decide (n < 1) = false := decide_eq_false h1
    obtain ⟨m, hm⟩ : ∃ m, L.length = m := ⟨_, rfl⟩
    by_cases h2 : (m : Int) < n
    · have d2 : decide ((m : Int) < n) = true := decide_eq_true h2
      rw [if_neg (by rw [hm]; omega)]
      rw [hm] at HL
      clear h1 h h2 hn hm
      go_enter Tryd.func27, Tryd.ntmps27
      go_wp2_with fail
      refine HL.out.mono ?_
      rintro e w1 ⟨rfl, rfl⟩
      go_wp2
      go_ret2
      exact ⟨rfl, rfl⟩
    · have d2 : decide ((m : Int) < n) = false := decide_eq_false h2
      rw [if_pos (by rw [hm]; omega)]
      obtain ⟨A, c, rfl, hsl⟩ := Ow.sl h.row
      obtain ⟨g, off, rfl, _, hc⟩ := hsl.rd.2 (by omega)
      obtain ⟨j, hj⟩ : ∃ j : Nat, (n - 1).toNat = j := ⟨_, rfl⟩
      have hx : L[j]? = some (L.getD j 0) := by rw [List.getD_eq_getElem?_getD, List.getElem?_eq_getElem (by omega)]; rfl
      have x1 := hc j _ hx
      have i1 := idx55 g off m c j (n - 1) (by omega) (by omega)
      have wn : IntKind.i64.wrap (n - 1) = n - 1 := IntWalk.i64_in _ (by omega)
      have c0 := h.blk.cell 0
      simp only [List.getElem?_toArray, List.getElem?_cons_zero, List.getElem?_cons_succ] at c0
      rw [hj]
      rw [hm] at HL c0
      unfold iv at x1
      obtain ⟨z, hz⟩ : ∃ z, L.getD j 0 = z := ⟨_, rfl⟩
      rw [hz] at x1 ⊢
      clear h1 h h2 hn hc hsl hx hj hz hm
      go_enter Tryd.func27, Tryd.ntmps27
      go_wp2_with fail
      refine HL.out.mono ?_
      rintro e w1 ⟨rfl, rfl⟩
      go_wp2
      go_ret2
      exact ⟨rfl, rfl⟩
set_option maxRecDepth 100000 in
set_option maxHeartbeats 4000000 in
theorem add_any (p B : Nat) (v : Value) (L : List Int) (x : Int) (w : World) (h : TxAt w B p v L) (hB : B ≤ w.heap.size) (hl : L.length ≤ 100000) : Calls Tryd.prog 26 #[.pointer (some ⟨p, 0, none⟩), .int .i64 x] w fun e w' => e = .returned (.tuple #[]) ∧ ∃ v', TxAt w' B p v' (L ++ [x]) ∧ FrX w w' p v.ownBlock ∧ Nw w v v' := by
  have HX := Lib.hid h
  obtain ⟨A, c, rfl, _⟩ := Ow.sl h.row
  have hby : Below w.heap.size w (w.alloc (.cells #[.int .i64 x] 3)) := (Below.refl _ _).alloc (Nat.le_refl _) _
  have HB := Lib.hid hby
  have HX3 := Lib.hid (h.later hby)
  have HY : Hid ((w.alloc (.cells #[.int .i64 x] 3)).cell? ⟨w.heap.size, 0, none⟩ = some (iv x)) := (Blk.new w #[.int .i64 x] 3).cell 0
  have c0 := h.blk.cell 0
  simp only [List.getElem?_toArray, List.getElem?_cons_zero, List.getElem?_cons_succ] at c0
  clear h hby
  go_enter Tryd.func26, Tryd.ntmps26
  go_wp2_with (first
    | (at_builtin; refine append_lies_sl elemI rfl (.tmp 10) (.tmp 12) rfl B (.slice A L.length c) L.length L rfl HX3.out.row w.heap.size x rfl HY.out (by omega) (by decide) (Nat.le_trans hB HB.out.size) ?_; intro A8 c8 w8 ho8 hg8)
    | fail)
  intro hn8
  have hbk : Blk w8 p #[.slice A L.length c] 63 := HX3.out.blk.grown hg8 (fun e => HX3.out.ne e.symm)
  have hne : (Value.slice A8 (L.length + 1) c8).ownBlock ≠ some p := fun e => by
    obtain ⟨cu, hc⟩ := Ow.tag ho8 p e
    have := hbk
    unfold Blk at this
    rw [hc] at this
    cases this
  have HT : Hid (TxAt (w8.setCell ⟨p, 0, none⟩ (.slice A8 (L.length + 1) c8)) B p (.slice A8 (L.length + 1) c8) (L ++ [x])) := by
    refine ⟨HX.out.hp, hbk.set (j := 0) _, ?_⟩
    rw [List.length_append]
    exact ow_keep ho8 (fun k ek => Below.heap_setCell w8 ⟨p, 0, none⟩ _ k (fun e => hne (by rw [ek, e])))
  have HF : Hid (FrX w (w8.setCell ⟨p, 0, none⟩ (.slice A8 (L.length + 1) c8)) p (Value.slice A L.length c).ownBlock) := by
    refine ⟨hg8.os.trans HB.out.os, hg8.tape.trans HB.out.tape, hg8.output.trans HB.out.output, by simp [World.setCell]; exact Nat.le_trans HB.out.size hg8.size, fun k hk h1 h2 => ?_⟩
    rw [Below.heap_setCell w8 ⟨p, 0, none⟩ _ k h1, hg8.block k (Nat.lt_of_lt_of_le hk HB.out.size) (fun e => h2 e.symm), HB.out.block k hk]
  have HNW : Hid (Nw w (.slice A L.length c) (.slice A8 (L.length + 1) c8)) := fun k ek => by
    rcases hn8 k ek with e | e
    · exact .inl e
    · exact .inr (Nat.le_trans HB.out.size e)
  have c1 := hbk.cell 0
  have f1 := hbk.frozen 0
  simp only [List.getElem?_toArray, List.getElem?_cons_zero, List.getElem?_cons_succ] at c1
  clear hbk hne ho8 hg8 hn8 HX3 HX HY HB c0
  go_wp2
  refine bodyPost_end (results_none rfl _ _ _) rfl ?_
  exact ⟨rfl, _, HT.out, HF.out, HNW.out⟩
set_option maxRecDepth 100000 in
set_option maxHeartbeats 4000000 in
theorem clone_any (B : Nat) (v : Value) (L : List Int) (w : World) (h : Ow iv w B 3 v L.length L) (hl : L.length ≤ 100000) : Calls Tryd.prog 51 #[v] w fun e w' => ∃ v', e = .returned v' ∧ Ow iv w' w.heap.size 3 v' L.length L ∧ Below w.heap.size w w' := by
  obtain ⟨A, c, rfl, hsl⟩ := Ow.sl h
  cases A with
  | none =>
    have h0 := (hsl.nil rfl).1
    have hL : L = [] := List.eq_nil_of_length_eq_zero h0
    subst hL
    refine (Tryd.slices_Clone_int_nil 0 c w).mono ?_
    rintro e w' ⟨rfl, rfl⟩
    exact ⟨_, rfl, Ow.none _ _ _, Below.refl _ _⟩
  | some a =>
    by_cases h0 : L.length = 0
    · have hL : L = [] := List.eq_nil_of_length_eq_zero h0
      subst hL
      refine (Tryd.slices_Clone_int_zero a c w).mono ?_
      rintro e w' ⟨v', rfl, ho, _, hb⟩
      exact ⟨_, rfl, ho, hb⟩
    · obtain ⟨g, off, e, _, hc⟩ := hsl.rd.2 (by omega)
      cases e
      refine (Tryd.slices_Clone_int g off L.length c L w (Nat.le_refl _) (by omega) (fun j hj => ?_)).mono ?_
      · rw [hc j _ (List.getElem?_eq_getElem hj), List.getD_eq_getElem?_getD, List.getElem?_eq_getElem hj]; rfl
      · rintro e w' ⟨v', rfl, ho, _, hb⟩
        rw [List.take_length] at ho
        exact ⟨_, rfl, ho, hb⟩
set_option maxRecDepth 100000 in
set_option maxHeartbeats 4000000 in
theorem copy_any (p B : Nat) (v : Value) (L : List Int) (w : World) (h : TxAt w B p v L) (hl : L.length ≤ 100000) : Calls Tryd.prog 29 #[.pointer (some ⟨p, 0, none⟩)] w fun e w' => ∃ p' v', e = .returned (.pointer (some ⟨p', 0, none⟩)) ∧ TxAt w' w.heap.size p' v' L ∧ Below w.heap.size w w' := by
  have HCL := Lib.hid (clone_any B v L w h.row hl)
  obtain ⟨A, c, rfl, _⟩ := Ow.sl h.row
  have c0 := h.blk.cell 0
  simp only [List.getElem?_toArray, List.getElem?_cons_zero, List.getElem?_cons_succ] at c0
  clear h
  go_enter Tryd.func29, Tryd.ntmps29
  go_wp2_with fail
  refine HCL.out.mono ?_
  rintro e w1 ⟨v1, rfl, ho, hb⟩
  have hby : Below w1.heap.size w1 (w1.alloc (.cells #[v1] 63)) := (Below.refl _ _).alloc (Nat.le_refl _) _
  have HB := Lib.hid (stepB hb hby)
  have HT : Hid (TxAt (w1.alloc (.cells #[v1] 63)) w.heap.size w1.heap.size v1 L) := ⟨hb.size, Blk.new _ _ _, ho.later hby⟩
  obtain ⟨A1, c1, rfl, _⟩ := Ow.sl ho
  clear ho hb hby HCL c0
  go_wp2
  go_ret
  exact ⟨_, _, rfl, HT.out, HB.out⟩
end Go.Proofs.YtkgdmdcnhbaidaaDoor
