/- Of the page's texts: what else is wanted. -/
import Derived.Test.YtbnbhhmgfogjeaaJP
import Derived.Laws.MakeOwn
namespace Go.Proofs.Ytbnbhhmgfogjeaa
open Go.ChangeShapes Go.WideShapes Go.ChangeAt Go.RowKit Go.Maps
set_option linter.unusedVariables false
set_option linter.unusedSimpArgs false

theorem info5 : ∃ i : TypeInfo, Try.prog.info? 5 = some i ∧ i.zero = some (.int .u8 0) ∧ i.size = 1 ∧ i.bytes = 1 := by
  have h : (Try.prog.info? 5).map (fun i => (i.zero, i.size, i.bytes)) = some (some (.int .u8 0), 1, 1) := by kernel_rfl
  cases hi : Try.prog.info? 5 with
  | none => rw [hi] at h; cases h
  | some i => rw [hi] at h; simp only [Option.map_some, Option.some.injEq, Prod.mk.injEq] at h; exact ⟨i, rfl, h.1, h.2.1, h.2.2⟩
theorem PgAt.fr {W W' : World} {B p b q c : Nat} {slot fresh last : Int} {C bs : List Int} (h : PgAt W B q c slot fresh last C bs) (hf : Fr W W' p b) (h1 : q ≠ p) (h2 : q ≠ b) (h3 : c ≠ p) (h4 : c ≠ b) : PgAt W' B q c slot fresh last C bs :=
  ⟨h.hp, hf.blk h.blk h1 h2, ⟨h.own.1, by
    obtain ⟨es, clock, hb, r⟩ := h.own.2
    exact ⟨es, clock, (hf.block c h.blt h3 h4).trans hb, r⟩⟩, h.ok, h.len⟩
theorem mk_z (n : Nat) (hn : n ≤ 100000) (W : World) : (Instr.makeSlice 96 (.int .i64 (n : Int)) (.int .i64 (n : Int))).run Try.prog W = .ok (.slice (some ⟨W.heap.size, 0, none⟩) n n) (W.alloc (.cells (madeCells #[.int .u8 0] n) 5)) := by
  obtain ⟨i, hi, hz, hs, hb⟩ := info5
  have := run_make (P := Try.prog) W 96 5 i (.int .u8 0) Try.underlying96 hi hz .i64 .i64 n n (by omega) (by omega) (by rw [hb]; omega) (by omega)
  rw [hs] at this
  simpa [Value.cells] using this
theorem made_at' (n j : Nat) (h : j < n) : (madeCells #[Value.int .u8 0] n)[j]? = some (.int .u8 0) := by
  unfold madeCells
  simp [h, Nat.mod_one]
theorem conv_z (n : Nat) (W : World) : (convert 96 9 (.slice (some ⟨W.heap.size, 0, none⟩) n n)).run Try.prog (W.alloc (.cells (madeCells #[.int .u8 0] n) 5)) = .ok (.string (strOfNums (List.replicate n 0))) (W.alloc (.cells (madeCells #[.int .u8 0] n) 5)) := by
  refine run_convert_bytes_arg _ 96 5 Try.underlying96 Try.underlying5 _ 0 n n (List.replicate n 0) (by simp) (fun i hi => ?_) 9 Try.underlying9
  have hc := (Blk.new W (madeCells #[.int .u8 0] n) 5).cell i
  rw [Nat.zero_add, hc, made_at' n i hi, List.getD_eq_getElem?_getD, List.getElem?_replicate, if_pos hi]
  rfl
theorem str_size (n : Nat) : (strOfNums (List.replicate n 0)).size = n := by rw [strOfNums_size, List.length_replicate]
theorem quo_s {s : Nat} (h2 : 2 ≤ s) : Int.tdiv 4096 (s : Int) = ((4096 / s : Nat) : Int) ∧ IntKind.i64.wrap ((4096 / s : Nat) : Int) = ((4096 / s : Nat) : Int) := by
  have : 4096 / s ≤ 4096 := Nat.div_le_self _ _
  refine ⟨?_, by generalize 4096 / s = r at *; exact IntWalk.i64_in _ (by omega)⟩
  rw [Int.tdiv_eq_ediv_of_nonneg (by omega), Int.natCast_ediv]; rfl
theorem room_pg (B p b s m : Nat) (C bs : List Int) (F : List Nat) (w : World) (h : Pg w B p b s m C bs F) (hs : s ≤ 4096) : Calls Try.prog 57 #[.pointer (some ⟨p, 0, none⟩)] w fun e w' => e = .returned (.int .i64 (((4096 / s : Nat) : Int) - (C.length : Nat))) ∧ Below w.heap.size w w' := by
  have h1 := room_any B p b (s : Int) _ _ C bs w h.at_ (h.s4 hs).1 (h.s4 hs).2
  rw [show (4096 : Int) / (s : Int) = ((4096 / s : Nat) : Int) from by rw [Int.natCast_ediv]; rfl] at h1
  exact h1
def sv (S : ByteArray) : Value := .string S
theorem elemS : Elem Try.prog 61 9 sv 16 where
  und := Try.underlying61
  info := by
    have h : (Try.prog.info? 9).map (fun i => (i.zero, i.size, i.bytes)) = some (some (.string ByteArray.empty), 1, 16) := by kernel_rfl
    cases hi : Try.prog.info? 9 with
    | none => rw [hi] at h; cases h
    | some i => rw [hi] at h; simp only [Option.map_some, Option.some.injEq, Prod.mk.injEq] at h; exact ⟨i, _, rfl, h.1, h.2.1, h.2.2, rfl⟩
  one := fun _ => rfl
theorem index49 (g off m c k : Nat) (i : Int) (hi : i = (k : Int)) (h : k < m) (W : World) : (Instr.indexAt 61 (.slice (some ⟨g, off, none⟩) m c) (.int .i64 i)).run Try.prog W = .ok (.pointer (some ⟨g, off + k, none⟩)) W := by
  subst hi
  have h1 : (0 : Int) ≤ (k : Int) ∧ (k : Int) < (m : Int) := by omega
  go_simp
theorem rdS_size {bs : List Int} {o n : Nat} (h : o + n ≤ bs.length) : (rdS bs o n).size = n := by
  unfold rdS strOfNums
  show (List.toArray _).size = n
  simp
  omega
theorem rdS_same {bs bs' : List Int} {o n : Nat} (hl : bs'.length = bs.length) (h : ∀ j, o ≤ j → j < o + n → bs'.getD j 0 = bs.getD j 0) : rdS bs' o n = rdS bs o n := by
  unfold rdS
  congr 1
  apply List.ext_getElem?
  intro j
  rw [List.getElem?_take, List.getElem?_take]
  by_cases hj : j < n
  · rw [if_pos hj, if_pos hj, List.getElem?_drop, List.getElem?_drop]
    have := h (o + j) (by omega) (by omega)
    rw [List.getD_eq_getElem?_getD, List.getD_eq_getElem?_getD] at this
    by_cases e : o + j < bs.length
    · rw [List.getElem?_eq_getElem e, List.getElem?_eq_getElem (by omega)] at this ⊢
      simpa using this
    · rw [List.getElem?_eq_none (by omega), List.getElem?_eq_none (by omega)]
  · rw [if_neg hj, if_neg hj]
theorem rdS_out {bs bs' : List Int} {o s x : Nat} (h : Out bs bs' o s) (hx : x + s ≤ o ∨ o + s ≤ x) : rdS bs' x s = rdS bs x s :=
  rdS_same h.1 (fun j h1 h2 => h.2 j (by omega))
variable {W W' : World} {B p b s m : Nat} {C bs : List Int} {F : List Nat} {fresh last : Int} in
theorem Inv.apart (h : Inv s m fresh last C bs F) {x y : Int} (hx : x ∈ C) (hy : y ∈ C) (hne : x ≠ y) : x.toNat + s ≤ y.toNat ∨ y.toNat + s ≤ x.toNat := by
  obtain ⟨i, _, ei⟩ := h.cm x hx
  obtain ⟨j, _, ej⟩ := h.cm y hy
  have e1 : x.toNat = i * s := by omega
  have e2 : y.toNat = j * s := by omega
  rw [e1, e2]
  exact apart_mul (fun e => hne (by rw [ei, ej, e]))
theorem read_pg (B p b s m : Nat) (C bs : List Int) (F : List Nat) (x : Int) (w : World) (h : Pg w B p b s m C bs F) (hx : x ∈ C) : Calls Try.prog 38 #[.pointer (some ⟨p, 0, none⟩), .int .u16 x] w fun e w' => e = .returned (.tuple #[.string (rdS bs x.toNat s), .int .i64 0]) ∧ Below w.heap.size w w' := by
  obtain ⟨o, rfl, ho, _, _⟩ := h.inv.at_ hx
  exact read_of B p b s o _ _ C bs w h.at_ h.inv.s2 ho (is_mem.2 hx)
theorem read_pg_no (B p b s m : Nat) (C bs : List Int) (F : List Nat) (x : Int) (w : World) (h : Pg w B p b s m C bs F) (hw : (Lit.int .u16 x).wf = true) (hx : x ∉ C) : Calls Try.prog 38 #[.pointer (some ⟨p, 0, none⟩), .int .u16 x] w fun e w' => e = .returned (.tuple #[.string ByteArray.empty, .int .i64 5]) ∧ Below w.heap.size w w' :=
  read_no B p b _ _ _ C bs x w h.at_ hw (by cases e : isC C x with | false => rfl | true => exact absurd (is_mem.1 e) hx)
theorem fill_rd {bs : List Int} {o s : Nat} (h : o + s ≤ bs.length) : rdS (fillZ bs o s) o s = strOfNums (List.replicate s 0) := by
  unfold rdS fillZ
  congr 1
  have hl : (bs.take o).length = o := by rw [List.length_take]; omega
  rw [List.append_assoc]
  have h1 : ∀ (a r : List Int), a.length = o → (a ++ r).drop o = r := fun a r h => by subst h; exact List.drop_left ..
  have h2 : ∀ (a r : List Int), a.length = s → (a ++ r).take s = a := fun a r h => by subst h; exact List.take_left ..
  rw [h1 _ _ hl, h2 _ _ (by simp)]
theorem rg16 {x : Int} (h : (Lit.int .u16 x).wf = true) : 0 ≤ x ∧ x ≤ 65535 := by
  simp only [Lit.wf, Bool.and_eq_true, decide_eq_true_eq] at h
  exact ⟨h.1, h.2⟩
theorem Fr.grown {w w1 w2 : World} {p b : Nat} {g : Option Nat} (h : Fr w w1 p b) (hg : w1.grownBy w2 g) (hn : ∀ k, g = some k → w.heap.size ≤ k) : Fr w w2 p b :=
  ⟨hg.os.trans h.os, hg.tape.trans h.tape, hg.output.trans h.output, Nat.le_trans h.size hg.size, fun k hk h1 h2 => (hg.block k (Nat.lt_of_lt_of_le hk h.size) (fun e => by have := hn k e.symm; omega)).trans (h.block k hk h1 h2)⟩
theorem Fr.later {w w1 w2 : World} {p b : Nat} (h : Fr w w1 p b) (hb : Below w1.heap.size w1 w2) : Fr w w2 p b := h.trans (Fr.of_below hb)
end Go.Proofs.Ytbnbhhmgfogjeaa
