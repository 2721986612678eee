/- JA, JB, JC, JD, JE, JF, JG, JH, JN, JP, JPX in one. -/
import Derived.Test.YtbncpfkoeahhpaaSl
import Derived.Maps.OwnOps
import Derived.Maps.OwnSet
import Derived.Maps.RangeWalk
import Derived.Maps.Views
import Derived.Carry
import Derived.Deep.QuietTactic
import Derived.Deep.MidRow
import Derived.Laws.BitsAllLaws
import Derived.LoopTactic
import Derived.StillTailTactics
import Derived.Laws.CopyRow
import Derived.Deep.RegionWith
import Derived.Laws.BytesArg
import Derived.Deep.AppendSrc
import Derived.Laws.MakeOwn
/- The slots that are used, as a set of them reads; the page. -/
namespace Go.Proofs.Ytbncpfkoeahhpaa
open Go.ChangeShapes Go.WideShapes Go.ChangeAt Go.RowKit Go.Maps
set_option linter.unusedVariables false
set_option linter.unusedSimpArgs false

abbrev DU := DataW Unit
/-- where a slot begins, as a key -/
def enc1 (x : Int) : Lit × DU := (.int .u16 x, .agg [])
def dm (C : List Int) : DU := .map (C.map enc1)
def delC (C : List Int) (t : Int) : List Int := C.filter fun p => decide (p ≠ t)
def insC (x : Int) : List Int → List Int
  | [] => [x]
  | y :: r => if x < y then x :: y :: r else y :: insC x r
def putC (C : List Int) (t : Int) : List Int := insC t (delC C t)
def isC (C : List Int) (t : Int) : Bool := C.any fun p => decide (p = t)
theorem same_int (a b : Int) : (Lit.int .u16 a).sameKey (.int .u16 b) = decide (a = b) := by simp [Lit.sameKey]
theorem has_dm (C : List Int) (t : Int) : Maps.has (dm C) (.int .u16 t) = isC C t := by
  unfold Maps.has dm isC
  simp only [List.any_map]
  congr 1
  funext p
  simp [enc1, same_int]
theorem del_dm (C : List Int) (t : Int) : (dm C).del (.int .u16 t) = dm (delC C t) := by
  show DataW.map _ = DataW.map _
  congr 1
  unfold delC
  induction C with
  | nil => rfl
  | cons p C ih =>
    simp only [List.map_cons, List.filter_cons, enc1, same_int] at ih ⊢
    by_cases h : p = t
    · simp [h]; simpa using ih
    · simp [h, enc1]; simpa using ih
theorem ins_dm (x : Int) : ∀ C : List Int, DataW.insert (enc1 x) (C.map enc1) = (insC x C).map enc1
  | [] => rfl
  | y :: r => by
    simp only [List.map_cons, DataW.insert, insC]
    by_cases h : x < y
    · rw [if_pos h, if_pos (show Lit.before (enc1 x).1 (enc1 y).1 = true from decide_eq_true h)]; rfl
    · rw [if_neg h, if_neg (show ¬ Lit.before (enc1 x).1 (enc1 y).1 = true from fun e => h (of_decide_eq_true e)), ins_dm x r]; rfl
theorem put_dm (C : List Int) (t : Int) : (dm C).put (.int .u16 t) (.agg []) = dm (putC C t) := by
  have h := del_dm C t
  unfold DataW.del dm at h
  simp only [DataW.map.injEq] at h
  unfold DataW.put dm
  simp only
  rw [h]
  unfold putC
  rw [← ins_dm]
  rfl
/-- rising, each within the page -/
structure Ok (C : List Int) : Prop where
  up : C.Pairwise (fun p q => p < q)
  rg : ∀ p ∈ C, 0 ≤ p ∧ p ≤ 4095
theorem Ok.nil : Ok [] := ⟨List.Pairwise.nil, fun _ h => by cases h⟩
theorem mem_ins {x y : Int} : ∀ {C : List Int}, y ∈ insC x C ↔ y = x ∨ y ∈ C
  | [] => by simp [insC]
  | z :: r => by
    unfold insC
    by_cases h : x < z
    · rw [if_pos h]; simp
    · rw [if_neg h, List.mem_cons, mem_ins, List.mem_cons]
      constructor
      · rintro (h | h | h) <;> simp [h]
      · rintro (h | h | h) <;> simp [h]
theorem mem_del {x y : Int} {C : List Int} : y ∈ delC C x ↔ y ∈ C ∧ y ≠ x := by unfold delC; simp
theorem ins_up {x : Int} : ∀ {C : List Int}, C.Pairwise (fun p q => p < q) → (∀ p ∈ C, p ≠ x) → (insC x C).Pairwise (fun p q => p < q)
  | [], _, _ => by simp [insC]
  | z :: r, h, hn => by
    unfold insC
    by_cases e : x < z
    · rw [if_pos e]
      refine List.pairwise_cons.2 ⟨fun p hp => ?_, h⟩
      rcases List.mem_cons.1 hp with rfl | hp
      · exact e
      · have := (List.pairwise_cons.1 h).1 p hp; omega
    · rw [if_neg e]
      have hz := hn z (List.mem_cons_self ..)
      refine List.pairwise_cons.2 ⟨fun p hp => ?_, ins_up (List.pairwise_cons.1 h).2 (fun p hp => hn p (List.mem_cons_of_mem _ hp))⟩
      rcases mem_ins.1 hp with rfl | hp
      · omega
      · exact (List.pairwise_cons.1 h).1 p hp
theorem Ok.del {C : List Int} (h : Ok C) (x : Int) : Ok (delC C x) := ⟨h.up.filter _, fun p hp => h.rg p (mem_del.1 hp).1⟩
theorem Ok.put {C : List Int} (h : Ok C) {x : Int} (h0 : 0 ≤ x) (h1 : x ≤ 4095) : Ok (putC C x) :=
  ⟨ins_up (h.del x).up (fun p hp => (mem_del.1 hp).2), fun p hp => by
    rcases mem_ins.1 hp with rfl | hp
    · exact ⟨h0, h1⟩
    · exact (h.del x).rg p hp⟩
theorem len_ins (x : Int) : ∀ C : List Int, (insC x C).length = C.length + 1
  | [] => rfl
  | y :: r => by
    unfold insC
    by_cases h : x < y
    · rw [if_pos h]; rfl
    · rw [if_neg h]; simp [len_ins x r]
theorem is_mem {C : List Int} {x : Int} : isC C x = true ↔ x ∈ C := by unfold isC; simp
theorem del_no {C : List Int} {x : Int} (h : isC C x = false) : delC C x = C := by
  unfold delC
  refine List.filter_eq_self.2 (fun p hp => decide_eq_true (fun e => ?_))
  subst e
  rw [is_mem.2 hp] at h; cases h
theorem len_up : ∀ {C : List Int} {a : Int}, C.Pairwise (fun p q => p < q) → (∀ p ∈ C, a ≤ p ∧ p ≤ 4095) → a ≤ 4096 → (C.length : Int) ≤ 4096 - a
  | [], a, _, _, h => by simp; omega
  | x :: r, a, hu, hr, _ => by
    have hx := hr x (List.mem_cons_self ..)
    have := len_up (a := x + 1) (List.pairwise_cons.1 hu).2 (fun p hp => ⟨by have := (List.pairwise_cons.1 hu).1 p hp; omega, (hr p (List.mem_cons_of_mem _ hp)).2⟩) (by omega)
    simp; omega
theorem Ok.len {C : List Int} (h : Ok C) : C.length ≤ 4096 := by have := len_up (a := 0) h.up (fun p hp => h.rg p hp) (by omega); omega
theorem law23 : Keyed Try.prog 87 := int_keyed Try.underlying87
theorem zero65 (w : World) : (zeroValue 124).run Try.prog w = .ok (.agg #[]) w := by kernel_rfl
section
variable {W W' : World} {B p b q : Nat} {C : List Int}
def MapAt (W : World) (B b : Nat) (C : List Int) : Prop := B ≤ b ∧ W.ownsMap Try.prog 87 unitElem b C.length (dm C)
theorem own_tight {P : Program} {k : TypeId} {R : Value → Option (DU × List MemPlace)} {n : Nat} (h : W.ownsMap P k R b n (dm C)) : W.ownsMap P k R b C.length (dm C) := by
  obtain ⟨es, clock, hb, F, hs, hD⟩ := h
  refine ⟨es, clock, hb, F, ?_, hD⟩
  have e : (C.map enc1).length = ((es.toList.map (WideElems.rg P k R)).foldr DataW.insert []).length := by
    unfold dm at hD
    simp only [DataW.map.injEq] at hD
    rw [hD]
  rw [length_sorted] at e
  simp at e
  omega
theorem MapAt.later (h : MapAt W B b C) (hb : Below W.heap.size W W') : MapAt W' B b C :=
  ⟨h.1, h.2.kept (row := none) ⟨hb.os, hb.tape, hb.output, hb.size, fun k hk _ => hb.block k hk⟩ (by simp)⟩
def by8 (x : Int) : Value := .int .u8 x
/-- a page's cells: the slots' length, the first that was never used, the last that was given back, those that are used, the bytes -/
def pgv (slot fresh last : Int) (b : Nat) (bs : List Int) : List Value := .int .i64 slot :: .int .i64 fresh :: .int .u16 last :: .map (some b) :: bs.map by8
structure PgAt (W : World) (B p b : Nat) (slot fresh last : Int) (C bs : List Int) : Prop where
  hp : B ≤ p
  blk : Blk W p (pgv slot fresh last b bs).toArray 128
  own : MapAt W B b C
  ok : Ok C
  len : bs.length = 4096
variable {slot fresh last : Int} {bs : List Int}
theorem PgAt.later (h : PgAt W B p b slot fresh last C bs) (hb : Below W.heap.size W W') : PgAt W' B p b slot fresh last C bs := ⟨h.hp, h.blk.later hb, h.own.later hb, h.ok, h.len⟩
theorem PgAt.base {B' : Nat} (h : PgAt W B p b slot fresh last C bs) (hb : B' ≤ B) : PgAt W B' p b slot fresh last C bs := ⟨Nat.le_trans hb h.hp, h.blk, ⟨Nat.le_trans hb h.own.1, h.own.2⟩, h.ok, h.len⟩
theorem PgAt.plt (h : PgAt W B p b slot fresh last C bs) : p < W.heap.size := h.blk.lt
theorem PgAt.blt (h : PgAt W B p b slot fresh last C bs) : b < W.heap.size := h.own.2.lt
theorem PgAt.c0 (h : PgAt W B p b slot fresh last C bs) : W.cell? ⟨p, 0, none⟩ = some (.int .i64 slot) := h.blk.cell 0
theorem PgAt.c1 (h : PgAt W B p b slot fresh last C bs) : W.cell? ⟨p, 1, none⟩ = some (.int .i64 fresh) := h.blk.cell 1
theorem PgAt.c2 (h : PgAt W B p b slot fresh last C bs) : W.cell? ⟨p, 2, none⟩ = some (.int .u16 last) := h.blk.cell 2
theorem PgAt.c3 (h : PgAt W B p b slot fresh last C bs) : W.cell? ⟨p, 3, none⟩ = some (.map (some b)) := h.blk.cell 3
theorem PgAt.cb (h : PgAt W B p b slot fresh last C bs) {j : Nat} (hj : j < bs.length) : W.cell? ⟨p, 4 + j, none⟩ = some (.int .u8 (bs.getD j 0)) := by
  have := h.blk.cell (4 + j)
  rw [this]
  unfold pgv
  simp only [List.getElem?_toArray]
  rw [show 4 + j = j + 4 from by omega]
  simp [by8, List.getElem?_eq_getElem hj]
theorem PgAt.ne (h : PgAt W B p b slot fresh last C bs) : p ≠ b := fun e => by
  obtain ⟨es, clock, hb, _⟩ := h.own.2
  have h2 : W.heap[p]? = some (.cells (pgv slot fresh last b bs).toArray 128 (0, 0)) := h.blk
  rw [e, hb] at h2; cases h2
end
end Go.Proofs.Ytbncpfkoeahhpaa

/- Used, Is, what is refused, Room, New. -/
namespace Go.Proofs.Ytbncpfkoeahhpaa
open Go.ChangeShapes Go.WideShapes Go.ChangeAt Go.RowKit Go.Maps
set_option linter.unusedVariables false
set_option linter.unusedSimpArgs false

set_option maxRecDepth 100000 in
set_option maxHeartbeats 4000000 in
theorem used_any (B p b : Nat) (slot fresh last : Int) (C bs : List Int) (w : World) (h : PgAt w B p b slot fresh last C bs) : Calls Try.prog 58 #[.pointer (some ⟨p, 0, none⟩)] w fun x w' => x = .returned (.int .i64 (C.length : Nat)) ∧ w = w' := by
  have k3 := h.c3
  have hl : (Builtin.len_ #[125] 3 #[.map (some b)]).run Try.prog w = .ok (.int .i64 (C.length : Nat)) w := by
    have := h.own.2.len Try.underlying125 3
    rw [show Maps.size (dm C) = C.length from by simp [dm, Maps.size]] at this
    exact this
  clear h
  go_enter Try.func58, Try.ntmps58
  go_wp2
  go_ret
  exact ⟨rfl, rfl⟩
set_option maxRecDepth 100000 in
set_option maxHeartbeats 4000000 in
theorem is_any (B p b : Nat) (slot fresh last : Int) (C bs : List Int) (x : Int) (w : World) (h : PgAt w B p b slot fresh last C bs) (hx : (Lit.int .u16 x).wf = true) : Calls Try.prog 66 #[.pointer (some ⟨p, 0, none⟩), .int .u16 x] w fun e w' => e = .returned (.bool (isC C x)) ∧ Below w.heap.size w w' := by
  have k3 := h.c3
  have HM := Lib.hid h.own.2
  clear h
  go_enter Try.func66, Try.ntmps66
  go_wp2_with (first
    | (at_lookup; refine wpList_lookup_own_unit _ rfl _ _ 125 rfl 87 124 law23 Try.underlying125 (zero65 _) b C.length _ rfl HM.out _ _ rfl (keyOf_int_mk Try.underlying87 hx) ?_)
    | go_in)
  rw [has_dm]
  go_ret
  exact ⟨rfl, (Below.refl _ _).alloc (Nat.le_refl _) _⟩
set_option maxRecDepth 100000 in
set_option maxHeartbeats 4000000 in
theorem refused_any (B p b : Nat) (slot fresh last : Int) (C bs : List Int) (x : Int) (w : World) (h : PgAt w B p b slot fresh last C bs) (hx : (Lit.int .u16 x).wf = true) (r : Int) (hr : (if isC C x then 0 else 5) = r) : Calls Try.prog 67 #[.pointer (some ⟨p, 0, none⟩), .int .u16 x] w fun e w' => e = .returned (.int .i64 r) ∧ Below w.heap.size w w' := by
  have H := Lib.hid h
  have HX := Lib.hid hx
  have HR := Lib.hid hr
  clear h hx hr
  go_enter Try.func67, Try.ntmps67
  go_wp2_with fail
  refine (is_any B p b slot fresh last C bs x w H.out HX.out).mono ?_
  rintro e w1 ⟨rfl, hb⟩
  have HB := Lib.hid hb
  clear hb H HX
  generalize isC C x = ic at *
  cases ic with
  | true =>
    go_wp2
    go_ret
    exact ⟨by rw [← HR.out]; rfl, HB.out⟩
  | false =>
    go_wp2
    go_ret
    exact ⟨by rw [← HR.out]; rfl, HB.out⟩
set_option maxRecDepth 100000 in
set_option maxHeartbeats 4000000 in
theorem room_any (B p b : Nat) (slot fresh last : Int) (C bs : List Int) (w : World) (h : PgAt w B p b slot fresh last C bs) (h2 : 2 ≤ slot) (h3 : slot ≤ 4096) : Calls Try.prog 63 #[.pointer (some ⟨p, 0, none⟩)] w fun e w' => e = .returned (.int .i64 (4096 / slot - (C.length : Nat))) ∧ Below w.heap.size w w' := by
  have HL : Hid (∀ W, Below w.heap.size w W → (Builtin.len_ #[125] 3 #[.map (some b)]).run Try.prog W = .ok (.int .i64 (C.length : Nat)) W) := fun W hb => by
    have := (h.own.later hb).2.len Try.underlying125 3
    rw [show Maps.size (dm C) = C.length from by simp [dm, Maps.size]] at this
    exact this
  have H := Lib.hid h
  have hl4 := h.ok.len
  have k0 := h.c0
  have d0 : (slot == 0) = false := by rw [beq_eq_false_iff_ne]; omega
  have hne : ¬ slot = 0 := by omega
  have hd1 : (0 : Int) ≤ 4096 / slot := Int.ediv_nonneg (by omega) (by omega)
  have hd2 : 4096 / slot ≤ 4096 := Int.ediv_le_self _ (by omega)
  obtain ⟨r, hr⟩ : ∃ r : Int, 4096 / slot = r := ⟨_, rfl⟩
  have ht : Int.tdiv 4096 slot = r := by rw [← hr]; exact Int.tdiv_eq_ediv_of_nonneg (by omega)
  have wr : IntKind.i64.wrap r = r := IntWalk.i64_in _ (by omega)
  have ws : IntKind.i64.wrap (r - (C.length : Int)) = r - (C.length : Int) := IntWalk.i64_in _ (by omega)
  rw [hr]
  rw [hr] at hd1 hd2
  clear h hr
  go_enter Try.func63, Try.ntmps63
  go_upto_region 3 with (fail)
  have k0' : ∀ n, (w.drewN n).cell? ⟨p, 0, none⟩ = some (.int .i64 slot) := fun n => (H.out.later (below_drewN (Below.refl _ _) n)).c0
  have k3' : ∀ n, (w.drewN n).cell? ⟨p, 3, none⟩ = some (.map (some b)) := fun n => (H.out.later (below_drewN (Below.refl _ _) n)).c3
  have k3 := H.out.c3
  have hL : ∀ n, (Builtin.len_ #[125] 3 #[.map (some b)]).run Try.prog (w.drewN n) = .ok (.int .i64 (C.length : Nat)) (w.drewN n) := fun n => HL.out _ (below_drewN (Below.refl _ _) n)
  go_quiet (fail)
  clear hL k0' k3' k0 k3
  go_wp2
  go_ret
  exact ⟨rfl, below_drewN (Below.refl _ _) nq⟩
theorem len67 : Try.prog.arrayLen 126 = 4096 := by kernel_rfl
theorem el67 : Try.prog.elem 126 = 5 := by kernel_rfl
theorem el39 : Try.prog.elem 102 = 5 := by kernel_rfl
theorem size5 (w : World) : (sizeOf 5).run Try.prog w = .ok 1 w := by kernel_rfl
theorem arr_from (p o : Nat) (ho : o < 4096) (W : World) : (Instr.sliceAt 126 (.pointer (some ⟨p, 4, none⟩)) (some (.int .u16 (o : Int))) none none).run Try.prog W = .ok (.slice (some ⟨p, 4 + o, none⟩) (4096 - o) (4096 - o)) W := by
  have ht : Try.prog.underlying 126 = some (.array (Try.prog.arrayLen 126) (Try.prog.elem 126)) := by rw [len67, el67]; exact Try.underlying126
  rw [run_sliceAt_array_l W 126 _ ht .u16 _ (by omega) (by rw [len67]; omega), el67, size5]
  show Result.ok _ _ = _
  unfold slicedAt
  rw [len67, if_neg (by omega), Addr.add_mid]
  simp
theorem sl_to (p o m c n : Nat) (hn : n ≤ c) (W : World) : (Instr.slice 102 (.slice (some ⟨p, o, none⟩) m c) none (some (.int .i64 (n : Int))) none).run Try.prog W = .ok (.slice (some ⟨p, o, none⟩) n c) W := by
  have h1 : (0 : Int) ≤ (n : Int) ∧ (n : Int) ≤ (c : Int) := by omega
  go_simp
set_option maxRecDepth 100000 in
set_option maxHeartbeats 4000000 in
theorem at_any (B p b : Nat) (s o : Nat) (fresh last : Int) (C bs : List Int) (w : World) (h : PgAt w B p b (s : Int) fresh last C bs) (hs : 2 ≤ s) (ho : o + s ≤ 4096) : Calls Try.prog 65 #[.pointer (some ⟨p, 0, none⟩), .int .u16 (o : Int)] w fun e w' => e = .returned (.slice (some ⟨p, 4 + o, none⟩) s (4096 - o)) ∧ Below w.heap.size w w' := by
  have k0 := h.c0
  have k0' : ∀ n, (w.drewN n).cell? ⟨p, 0, none⟩ = some (.int .i64 (s : Int)) := fun n => (h.later (below_drewN (Below.refl _ _) n)).c0
  have hA := arr_from p o (by omega)
  have hB := sl_to p (4 + o) (4096 - o) (4096 - o) s (by omega)
  have d1 : s ≤ 4096 - o := by omega
  clear h
  go_enter Try.func65, Try.ntmps65
  go_upto_region 1 with (fail)
  go_quiet (fail)
  clear k0 k0' hA hB
  go_wp2
  go_ret
  exact ⟨rfl, below_drewN (Below.refl _ _) nq⟩
end Go.Proofs.Ytbncpfkoeahhpaa

/- New. -/
namespace Go.Proofs.Ytbncpfkoeahhpaa
open Go.ChangeShapes Go.WideShapes Go.ChangeAt Go.RowKit Go.Maps
set_option linter.unusedVariables false
set_option linter.unusedSimpArgs false

set_option maxRecDepth 100000 in
set_option maxHeartbeats 4000000 in
theorem new_no (s : Int) (w : World) (hs : s < 2 ∨ 4096 < s) : Calls Try.prog 61 #[.int .i64 s] w fun e w' => e = .returned (.tuple #[.pointer none, .int .i64 1]) ∧ w = w' := by
  by_cases h1 : s < 2
  · have d1 : decide (s < 2) = true := decide_eq_true h1
    clear h1 hs
    go_enter Try.func61, Try.ntmps61
    go_wp2
    go_ret2
    exact ⟨rfl, rfl⟩
  · have d1 : decide (s < 2) = false := decide_eq_false h1
    have d2 : decide (4096 < s) = true := decide_eq_true (by omega)
    clear h1 hs
    go_enter Try.func61, Try.ntmps61
    go_wp2
    go_ret2
    exact ⟨rfl, rfl⟩
set_option maxRecDepth 1000000 in
theorem built69 (s : Int) (r : Nat) : Try.prog.built 128 [(0, .int .i64 s), (2, .int .u16 65535), (3, .map (some r))] = some (pgv s 0 65535 r (List.replicate 4096 0)).toArray := by kernel_rfl
theorem wpl_build {ops : Array Oper} {rest : List Oper} {o : Oper} {a : Act} {w : World} {Q : Exit → Act → World → Prop} (hg : o.guard = none) (t : TypeId) (parts : Array (Nat × Operand)) (ho : o.op = .build t parts) (cells : Array Value)
    (hf : Try.prog.built t (parts.map fun (i, x) => (i, a.eval x)).toList = some cells) (h : wpList Try.prog ops Q rest (a.put o.dst (.agg cells)) w) : wpList Try.prog ops Q (o :: rest) a w :=
  wpList_plain hg fun _ hK => wp_build t parts ho (by rw [hf]; rfl) (by rw [hf]; exact hK _ _ h)
set_option maxRecDepth 100000 in
set_option maxHeartbeats 4000000 in
theorem new_any (s : Int) (w : World) (h1 : 2 ≤ s) (h2 : s ≤ 4096) : Calls Try.prog 61 #[.int .i64 s] w fun e w' => e = .returned (.tuple #[.pointer (some ⟨w.heap.size + 1, 0, none⟩), .int .i64 0]) ∧ PgAt w' w.heap.size (w.heap.size + 1) w.heap.size s 0 65535 [] (List.replicate 4096 0) ∧ Below w.heap.size w w' := by
  have hmm := @run_makeMap Try.prog
  have d1 : decide (s < 2) = false := decide_eq_false (by omega)
  have d2 : decide (4096 < s) = false := decide_eq_false (by omega)
  obtain ⟨cells, hc⟩ : ∃ c, c = (pgv s 0 65535 w.heap.size (List.replicate 4096 0)).toArray := ⟨_, rfl⟩
  have HBT : Hid (Try.prog.built 128 [(0, .int .i64 s), (2, .int .u16 65535), (3, .map (some w.heap.size))] = some cells) := by rw [hc]; exact built69 s _
  have hb0 : Below w.heap.size w (w.alloc (.map #[] 0)) := (Below.refl _ _).alloc (Nat.le_refl _) _
  have hb1 : Below w.heap.size w ((w.alloc (.map #[] 0)).alloc (.cells cells 128)) := hb0.alloc hb0.size _
  have HB := Lib.hid hb1
  have HO : Hid (PgAt ((w.alloc (.map #[] 0)).alloc (.cells cells 128)) w.heap.size (w.heap.size + 1) w.heap.size s 0 65535 [] (List.replicate 4096 0)) :=
    ⟨Nat.le_succ _, by rw [← hc]; exact Blk.new2 _ _ _ (by simp), ⟨Nat.le_refl _, (World.ownsMap_made w Try.prog 87 unitElem).alloc _⟩, Ok.nil, List.length_replicate ..⟩
  clear h1 h2 hb0 hb1 hc
  go_enter Try.func61, Try.ntmps61
  go_wp2_with (first
    | (refine wpl_build rfl 128 _ rfl cells ?_ ?_)
    | go_in)
  · exact HBT.out
  · go_ret2
    exact ⟨rfl, HO.out, HB.out⟩
end Go.Proofs.Ytbncpfkoeahhpaa

/- Get16 and Put16 on a slot of a page. -/
namespace Go.Proofs.Ytbncpfkoeahhpaa
open Go.ChangeShapes Go.WideShapes Go.ChangeAt Go.RowKit Go.Maps
set_option linter.unusedVariables false
set_option linter.unusedSimpArgs false

/-- a number put into bytes, k bytes from a place on, the last one first -/
def putI (bs : List Int) (a : Nat) : Nat → Int → List Int
  | 0, _ => bs
  | k + 1, m => putI (bs.set (a + k) (m % 256)) a k (m / 256)
theorem putI_succ (bs : List Int) (a k : Nat) (m : Int) : putI bs a (k + 1) m = putI (bs.set (a + k) (m % 256)) a k (m / 256) := rfl
theorem putI_len (a : Nat) : ∀ (k : Nat) (bs : List Int) (m : Int), (putI bs a k m).length = bs.length
  | 0, _, _ => rfl
  | k + 1, bs, m => by rw [putI, putI_len a k]; simp
/-- the number of k bytes from a place on -/
def getI (bs : List Int) (a : Nat) : Nat → Int
  | 0 => 0
  | k + 1 => getI bs a k * 256 + bs.getD (a + k) 0
theorem getI_succ (bs : List Int) (a k : Nat) : getI bs a (k + 1) = getI bs a k * 256 + bs.getD (a + k) 0 := rfl
/-- each is a byte -/
def isBytes (bs : List Int) : Prop := ∀ i, i < bs.length → 0 ≤ bs.getD i 0 ∧ bs.getD i 0 < 256
theorem isBytes.getD {bs : List Int} (h : isBytes bs) (i : Nat) : 0 ≤ bs.getD i 0 ∧ bs.getD i 0 < 256 := by
  by_cases hi : i < bs.length
  · exact h i hi
  · rw [List.getD_eq_getElem?_getD, List.getElem?_eq_none (by omega)]; simp
theorem isBytes.set {bs : List Int} (h : isBytes bs) (i : Nat) (m : Int) : isBytes (bs.set i (m % 256)) := by
  intro j hj
  rw [List.getD_eq_getElem?_getD, List.getElem?_set]
  by_cases e : i = j
  · subst e
    rw [if_pos rfl, if_pos (by simpa using hj)]
    simp only [Option.getD_some]; omega
  · rw [if_neg e, ← List.getD_eq_getElem?_getD]; exact h.getD j
theorem isBytes.putI {a : Nat} : ∀ (k : Nat) (bs : List Int) (m : Int), isBytes bs → isBytes (putI bs a k m)
  | 0, _, _, h => h
  | k + 1, bs, m, h => by rw [putI_succ]; exact isBytes.putI k _ _ (h.set _ _)
theorem getI_bound {bs : List Int} (h : isBytes bs) (a : Nat) : ∀ k, 0 ≤ getI bs a k ∧ getI bs a k < 256 ^ k
  | 0 => by simp [getI]
  | k + 1 => by
    have ih := getI_bound h a k
    have hb := h.getD (a + k)
    have hp : (256 : Int) ^ (k + 1) = 256 ^ k * 256 := Int.pow_succ 256 k
    rw [getI_succ]; omega

/-- what is left of a number of k bytes' ones -/
def ones (k : Nat) : Int := 256 ^ k - 1
theorem ones_div (k : Nat) : ones (k + 1) / 256 = ones k := by
  unfold ones
  have h : (256 : Int) ^ (k + 1) = 256 ^ k * 256 := Int.pow_succ 256 k
  omega
theorem ones_pos (k : Nat) (h : 0 < k) : 0 < ones k := by
  obtain ⟨j, rfl⟩ : ∃ j, k = j + 1 := ⟨k - 1, by omega⟩
  unfold ones
  have h : (256 : Int) ^ (j + 1) = 256 ^ j * 256 := Int.pow_succ 256 j
  have h2 : (0 : Int) < 256 ^ j := Int.pow_pos (by omega)
  omega
theorem ones2 : bits BinOp.xor IntKind.u16 IntKind.u16.max 0 = ones (2 - 0) := by decide

theorem or_add (k a b : Nat) (h : b < 2 ^ k) : (a * 2 ^ k) ||| b = a * 2 ^ k + b := by
  rw [Nat.mul_comm, Nat.two_pow_add_eq_or_of_lt h]
theorem or_u16 (k P : Nat) (a b PI : Int) (hPI : PI = (P : Int)) (hP : P = 2 ^ k) (ha : 0 ≤ a) (hb : 0 ≤ b) (hb' : b < PI) (hs : a * PI + b < 65536) : bits BinOp.or IntKind.u16 (a * PI) b = a * PI + b := by
  subst hPI
  obtain ⟨a, rfl⟩ := Int.eq_ofNat_of_zero_le ha
  obtain ⟨b, rfl⟩ := Int.eq_ofNat_of_zero_le hb
  have h3 : (a : Int) * (P : Int) = ((a * P : Nat) : Int) := by push_cast; rfl
  rw [h3] at hs ⊢
  have h1 : b < 2 ^ k := by rw [← hP]; omega
  have h4 : (a * P) ||| b = a * P + b := by subst hP; exact or_add k a b h1
  rw [u16_or_nat _ _ (by omega) (by omega), h4]; push_cast; rfl
theorem get16_step (bs : List Int) (hb : isBytes bs) (a k : Nat) (hk : k < 2) : bits BinOp.or IntKind.u16 (IntKind.u16.wrap (getI bs a k * 256)) (bs.getD (a + k) 0) = getI bs a (k + 1) := by
  have h1 := getI_bound hb a k
  have h2 := hb.getD (a + k)
  have h3 : ∀ k : Nat, k < 2 → (256 : Int) ^ k ≤ 256 := by decide
  have h4 := h3 k hk
  rw [IntKind.wrap_u16, Int.emod_eq_of_lt (by omega) (by omega), or_u16 8 256 _ _ 256 rfl (by decide) h1.1 h2.1 h2.2 (by omega), getI_succ]

set_option maxRecDepth 100000 in
set_option maxHeartbeats 4000000 in
theorem width16 (w : World) : Calls Try.prog 77 #[] w fun e w' => e = .returned (.int .i64 2) ∧ w = w' := by
  go_enter Try.func77, Try.ntmps77
  go_wp2
  go_loop [1, 2] (fun b r => ∃ k : Nat, k ≤ 2 ∧ b = .int .i64 k ∧ r = .int .u16 (ones (2 - k))) (fun b _ => 2 - (intOf b).toNat)
  case atStart => exact ⟨0, by omega, rfl, by rw [ones2]⟩
  case round =>
    obtain ⟨k, hk, rfl, rfl⟩ := hrel
    by_cases hlt : k < 2
    · have hp : 0 < ones (2 - k) := ones_pos _ (by omega)
      have hd : Hid (ones (2 - k) / 256 = ones (2 - (k + 1))) := by
        have := ones_div (2 - (k + 1)); rw [← this]; show _ = _; congr 2; omega
      go_wp2
      go_round
      case rel => exact ⟨k + 1, by omega, by go_num, by rw [hd.out]⟩
      case measure => simp [intOf]; omega
    · obtain rfl : k = 2 := by omega
      have hp : ones (2 - 2) ≤ 0 := by decide
      go_wp2
      go_ret
      exact ⟨rfl, rfl⟩

/-- is a place of k bytes within n bytes? -/
def inB (n : Nat) (at_ k : Int) : Bool := decide (0 ≤ at_ ∧ at_ ≤ n - k)
theorem inB_yes {n : Nat} {at_ k : Int} (h : inB n at_ k = true) : 0 ≤ at_ ∧ at_ ≤ n - k := by simpa [inB] using h
theorem inB_no {n : Nat} {at_ k : Int} (h : inB n at_ k = false) : ¬ (0 ≤ at_ ∧ at_ ≤ n - k) := by
  unfold inB at h; exact of_decide_eq_false h

set_option maxRecDepth 100000 in
set_option maxHeartbeats 4000000 in
theorem within_any (A : Option Addr) (n c : Nat) (at_ k : Int) (w : World) (hn : n ≤ 140737488355328) (h1 : 0 ≤ k) (h2 : k ≤ 8) :
    Calls Try.prog 76 #[.slice A n c, .int .i64 at_, .int .i64 k] w fun e w' => e = .returned (.bool (inB n at_ k)) ∧ w = w' := by
  have hv : ∀ b : Bool, b = inB n at_ k → Ending.returned (.bool b) = .returned (.bool (inB n at_ k)) := fun b h => by rw [h]
  go_enter Try.func76, Try.ntmps76
  go_wp2
  all_goals go_ret
  · refine ⟨hv _ ?_, rfl⟩
    unfold inB; rw [decide_eq_decide]; omega
  · refine ⟨hv _ ?_, rfl⟩
    unfold inB; rw [eq_comm, decide_eq_false_iff_not]; omega

theorem pg_set (slot fresh last : Int) (b : Nat) (bs : List Int) (j : Nat) (x : Int) : (pgv slot fresh last b bs).toArray.setIfInBounds (4 + j) (.int .u8 x) = (pgv slot fresh last b (bs.set j x)).toArray := by
  rw [show 4 + j = j + 4 from by omega]
  unfold pgv
  simp [List.set_cons_succ, by8, List.map_set]
theorem PgAt.setb {W : World} {B p b : Nat} {slot fresh last : Int} {C bs : List Int} (h : PgAt W B p b slot fresh last C bs) (j : Nat) (x : Int) : PgAt (W.setCell ⟨p, 4 + j, none⟩ (.int .u8 x)) B p b slot fresh last C (bs.set j x) :=
  ⟨h.hp, by rw [← pg_set]; exact h.blk.set (j := 4 + j) _, ⟨h.own.1, h.own.2.kept (grown_set W p (4 + j) _) (fun e => h.ne (Option.some.inj e).symm)⟩, h.ok, by rw [List.length_set]; exact h.len⟩
set_option maxRecDepth 100000 in
set_option maxHeartbeats 4000000 in
theorem get_any (B p b : Nat) (s o : Nat) (slot fresh last : Int) (C bs : List Int) (w : World) (h : PgAt w B p b slot fresh last C bs) (hb : isBytes bs) (hs : 2 ≤ s) (ho : o + s ≤ 4096) : Calls Try.prog 71 #[.slice (some ⟨p, 4 + o, none⟩) s (4096 - o), .int .i64 0] w fun e w' => e = .returned (.tuple #[.int .u16 (getI bs o 2), .bool true]) ∧ w = w' := by
  have hi : inB s 0 2 = true := by unfold inB; rw [decide_eq_true_eq]; omega
  have HC : Hid (∀ k, k < 2 → w.cell? ⟨p, 4 + o + k, none⟩ = some (.int .u8 (bs.getD (o + k) 0))) := fun k hk => by
    have := h.cb (j := o + k) (by have := h.len; omega)
    rwa [show 4 + (o + k) = 4 + o + k from by omega] at this
  have HI := Lib.hid hi
  clear h hi
  go_enter Try.func71, Try.ntmps71
  go_wp2_with (first
    | (go_at_call 77; refine (width16 _).mono ?_; rintro e w' ⟨rfl, rfl⟩)
    | (go_at_call 76; refine (within_any _ _ _ _ _ _ (by omega) (by omega) (by omega)).mono ?_; rintro e w' ⟨rfl, rfl⟩; rw [HI.out]))
  go_loop [7, 16] (fun r i => ∃ k : Nat, k ≤ 2 ∧ i = .int .i64 k ∧ r = .int .u16 (getI bs o k)) (fun _ i => 2 - (intOf i).toNat)
  case atStart => exact ⟨0, by omega, rfl, rfl⟩
  case round =>
    obtain ⟨k, hk, rfl, rfl⟩ := hrel
    by_cases hlt : k < 2
    · have hc := HC.out k hlt
      have hst := Lib.hid (get16_step bs hb o k hlt)
      have hbb := hb.getD (o + k)
      have hg := getI_bound hb o k
      generalize hx : bs.getD (o + k) 0 = x at *
      have Hx := Lib.hid hx
      clear hx
      go_wp2
      go_round
      case rel => exact ⟨k + 1, by omega, by go_num, by rw [← hst.out]⟩
      case measure => simp [intOf]; omega
    · obtain rfl : k = 2 := by omega
      go_wp2
      go_ret2
      exact ⟨rfl, rfl⟩
end Go.Proofs.Ytbncpfkoeahhpaa

/- What else stays; Get16, Put16, the next slot. -/
namespace Go.Proofs.Ytbncpfkoeahhpaa
open Go.ChangeShapes Go.WideShapes Go.ChangeAt Go.RowKit Go.Maps
set_option linter.unusedVariables false
set_option linter.unusedSimpArgs false

/-- all but two blocks stays -/
structure Fr (w w' : World) (p b : Nat) : Prop where
  os : w'.os = w.os
  tape : w'.tape = w.tape
  output : w'.output = w.output
  size : w.heap.size ≤ w'.heap.size
  block : ∀ k, k < w.heap.size → k ≠ p → k ≠ b → w'.heap[k]? = w.heap[k]?
section
variable {w w' w2 : World} {p b : Nat}
theorem Fr.of_p (h : w.grownBy w' (some p)) : Fr w w' p b := ⟨h.os, h.tape, h.output, h.size, fun k hk h1 _ => h.block k hk (fun e => h1 (Option.some.inj e))⟩
theorem Fr.of_b (h : w.grownBy w' (some b)) : Fr w w' p b := ⟨h.os, h.tape, h.output, h.size, fun k hk _ h2 => h.block k hk (fun e => h2 (Option.some.inj e))⟩
theorem Fr.of_below (h : Below w.heap.size w w') : Fr w w' p b := ⟨h.os, h.tape, h.output, h.size, fun k hk _ _ => h.block k hk⟩
theorem Fr.trans (h : Fr w w' p b) (k : Fr w' w2 p b) : Fr w w2 p b := ⟨k.os.trans h.os, k.tape.trans h.tape, k.output.trans h.output, Nat.le_trans h.size k.size, fun i hi h1 h2 => (k.block i (Nat.lt_of_lt_of_le hi h.size) h1 h2).trans (h.block i hi h1 h2)⟩
theorem Fr.below {w0 : World} {B : Nat} (h : Fr w w' p b) (hb : Below B w0 w) (hB : B ≤ w.heap.size) (h1 : B ≤ p) (h2 : B ≤ b) : Below B w0 w' :=
  ⟨h.os.trans hb.os, h.tape.trans hb.tape, h.output.trans hb.output, Nat.le_trans hb.size h.size, fun k hk => (h.block k (by omega) (by omega) (by omega)).trans (hb.block k hk)⟩
theorem Fr.blk (h : Fr w w' p b) {q : Nat} {c : Array Value} {t : TypeId} (k : Blk w q c t) (h1 : q ≠ p) (h2 : q ≠ b) : Blk w' q c t := (h.block q k.lt h1 h2).trans k
end
theorem grown_of_below' {w w' : World} (h : Below w.heap.size w w') (r : Option Nat) : w.grownBy w' r := ⟨h.os, h.tape, h.output, h.size, fun k hk _ => h.block k hk⟩
section
variable {W : World} {B p b : Nat} {slot fresh last : Int} {C bs : List Int}
theorem PgAt.set1 (h : PgAt W B p b slot fresh last C bs) (x : Int) : PgAt (W.setCell ⟨p, 1, none⟩ (.int .i64 x)) B p b slot x last C bs :=
  ⟨h.hp, by have := h.blk.set (j := 1) (.int .i64 x); simpa [pgv] using this, ⟨h.own.1, h.own.2.kept (grown_set W p 1 _) (fun e => h.ne (Option.some.inj e).symm)⟩, h.ok, h.len⟩
theorem PgAt.set2 (h : PgAt W B p b slot fresh last C bs) (x : Int) : PgAt (W.setCell ⟨p, 2, none⟩ (.int .u16 x)) B p b slot fresh x C bs :=
  ⟨h.hp, by have := h.blk.set (j := 2) (.int .u16 x); simpa [pgv] using this, ⟨h.own.1, h.own.2.kept (grown_set W p 2 _) (fun e => h.ne (Option.some.inj e).symm)⟩, h.ok, h.len⟩
end
set_option maxRecDepth 100000 in
set_option maxHeartbeats 4000000 in
theorem get16_any (B p b : Nat) (s o : Nat) (slot fresh last : Int) (C bs : List Int) (w : World) (h : PgAt w B p b slot fresh last C bs) (hb : isBytes bs) (hs : 2 ≤ s) (ho : o + s ≤ 4096) : Calls Try.prog 54 #[.slice (some ⟨p, 4 + o, none⟩) s (4096 - o), .int .i64 0] w fun e w' => e = .returned (.tuple #[.int .u16 (getI bs o 2), .bool true]) ∧ w = w' := by
  have HG := Lib.hid (get_any B p b s o slot fresh last C bs w h hb hs ho)
  clear h hb hs ho
  go_enter Try.func54, Try.ntmps54
  go_wp2_with fail
  refine HG.out.mono ?_
  rintro e w1 ⟨rfl, rfl⟩
  clear HG
  go_wp2
  go_ret2
  exact ⟨rfl, rfl⟩
set_option maxRecDepth 100000 in
set_option maxHeartbeats 4000000 in
theorem put_any (B p b : Nat) (s o : Nat) (slot fresh last : Int) (C bs : List Int) (m : Int) (w : World) (h : PgAt w B p b slot fresh last C bs) (hm : 0 ≤ m) (hs : 2 ≤ s) (ho : o + s ≤ 4096) : Calls Try.prog 69 #[.slice (some ⟨p, 4 + o, none⟩) s (4096 - o), .int .i64 0, .int .u16 m] w fun e w' => e = .returned (.bool true) ∧ PgAt w' B p b slot fresh last C (putI bs o 2 m) ∧ w.grownBy w' (some p) := by
  have hi : inB s 0 2 = true := by unfold inB; rw [decide_eq_true_eq]; omega
  have HI := Lib.hid hi
  have H := Lib.hid h
  clear h hi
  go_enter Try.func69, Try.ntmps69
  go_wp2_with (first
    | (go_at_call 77; refine (width16 _).mono ?_; rintro e w' ⟨rfl, rfl⟩)
    | (go_at_call 76; refine (within_any _ _ _ _ _ _ (by omega) (by omega) (by omega)).mono ?_; rintro e w' ⟨rfl, rfl⟩; rw [HI.out]))
  go_loopw [2, 8] (fun r i wr => ∃ k : Nat, ∃ m' : Int, ∃ bs' : List Int, 0 ≤ m' ∧ k ≤ 2 ∧ i = .int .i64 ((k : Int) - 1) ∧ r = .int .u16 m' ∧ PgAt wr B p b slot fresh last C bs' ∧ putI bs' o k m' = putI bs o 2 m ∧ w.grownBy wr (some p)) (fun _ i _ => (intOf i + 1).toNat)
  case atStart => exact ⟨2, m, bs, hm, by omega, rfl, rfl, H.out, rfl, World.grownBy.refl _ _⟩
  case round =>
    obtain ⟨k, m', bs', hm', hk, rfl, rfl, hp', hput, hg⟩ := hrel
    have H' := Lib.hid hp'
    have Hput := Lib.hid hput
    have Hg := Lib.hid hg
    clear hp' hput hg H
    by_cases hlt : 1 ≤ k
    · obtain ⟨j, rfl⟩ : ∃ j, k = j + 1 := ⟨k - 1, by omega⟩
      have hc : wr.cell? ⟨p, 4 + o + j, none⟩ = some (.int .u8 (bs'.getD (o + j) 0)) := by
        have := H'.out.cb (j := o + j) (by have := H'.out.len; omega)
        rwa [show 4 + (o + j) = 4 + o + j from by omega] at this
      have hf : wr.frozen? ⟨p, 4 + o + j, none⟩ = false := H'.out.blk.frozen _
      have hst := H'.out.setb (o + j) (m' % 256)
      rw [show 4 + (o + j) = 4 + o + j from by omega] at hst
      have Hst := Lib.hid hst
      have Hg2 : Hid (w.grownBy (wr.setCell ⟨p, 4 + o + j, none⟩ (.int .u8 (m' % 256))) (some p)) := grown_trans Hg.out (grown_set wr p _ _)
      have hj1 : ((j + 1 : Nat) : Int) - 1 = (j : Int) := by omega
      rw [hj1]
      clear hst hj1
      go_wp2
      go_roundw
      case rel =>
        refine ⟨j, m' / 256, bs'.set (o + j) (m' % 256), by omega, by omega, ?_, rfl, Hst.out, ?_, Hg2.out⟩
        · first | rfl | (congr 1; omega)
        · exact Hput.out
      case measure => simp [intOf] <;> omega
    · obtain rfl : k = 0 := by omega
      have HP := Hput.out
      have HF : Hid (PgAt wr B p b slot fresh last C (putI bs o 2 m)) := by rw [← HP]; exact H'.out
      clear HP
      go_wp2
      go_ret
      exact ⟨rfl, HF.out, Hg.out⟩
set_option maxRecDepth 100000 in
set_option maxHeartbeats 4000000 in
theorem put16_any (B p b : Nat) (s o : Nat) (slot fresh last : Int) (C bs : List Int) (m : Int) (w : World) (h : PgAt w B p b slot fresh last C bs) (hm : 0 ≤ m) (hs : 2 ≤ s) (ho : o + s ≤ 4096) : Calls Try.prog 51 #[.slice (some ⟨p, 4 + o, none⟩) s (4096 - o), .int .i64 0, .int .u16 m] w fun e w' => e = .returned (.bool true) ∧ PgAt w' B p b slot fresh last C (putI bs o 2 m) ∧ w.grownBy w' (some p) := by
  have HG := Lib.hid (put_any B p b s o slot fresh last C bs m w h hm hs ho)
  clear h hm hs ho
  go_enter Try.func51, Try.ntmps51
  go_wp2_with fail
  refine HG.out.mono ?_
  rintro e w1 ⟨rfl, h1, h2⟩
  have H1 := Lib.hid h1
  have H2 := Lib.hid h2
  clear HG h1 h2
  go_wp2
  go_ret
  exact ⟨rfl, H1.out, H2.out⟩
set_option maxRecDepth 100000 in
set_option maxHeartbeats 4000000 in
theorem next_fresh (B p b : Nat) (slot fresh : Int) (C bs : List Int) (w : World) (h : PgAt w B p b slot fresh 65535 C bs) (h0 : 0 ≤ fresh) (h1 : fresh ≤ 4096) (h2 : 0 ≤ slot) (h3 : slot ≤ 4096) : Calls Try.prog 64 #[.pointer (some ⟨p, 0, none⟩)] w fun e w' => e = .returned (.int .u16 fresh) ∧ PgAt w' B p b slot (fresh + slot) 65535 C bs ∧ w.grownBy w' (some p) := by
  have H := Lib.hid h
  have wf : IntKind.u16.wrap fresh = fresh := by rw [IntKind.wrap_u16]; exact Int.emod_eq_of_lt h0 (by omega)
  have wf2 : fresh % 65536 = fresh := Int.emod_eq_of_lt h0 (by omega)
  have wa : IntKind.i64.wrap (fresh + slot) = fresh + slot := IntWalk.i64_in _ (by omega)
  have c1 := h.c1
  have c2 := h.c2
  clear h
  go_enter Try.func64, Try.ntmps64
  go_upto_region 4 with (fail)
  have HD := Lib.hid (H.out.later (Below.drew (Below.refl w.heap.size w)))
  have e1 := HD.out.c1
  have e0 := HD.out.c0
  have ef := HD.out.blk.frozen 1
  have k0 := H.out.c0
  go_still_tail 11, (by kernel_rfl)
  change wpList _ _ _ _ _ w.drew
  have HF : Hid (PgAt (w.drew.setCell ⟨p, 1, none⟩ (.int .i64 (fresh + slot))) B p b slot (fresh + slot) 65535 C bs) := HD.out.set1 _
  have HG : Hid (w.grownBy (w.drew.setCell ⟨p, 1, none⟩ (.int .i64 (fresh + slot))) (some p)) := grown_trans (grown_of_below' (Below.drew (Below.refl _ _)) (some p)) (grown_set _ p _ _)
  go_wp2
  go_ret
  exact ⟨rfl, HF.out, HG.out⟩
set_option maxRecDepth 100000 in
set_option maxHeartbeats 4000000 in
theorem next_back (B p b s o : Nat) (fresh : Int) (C bs : List Int) (w : World) (h : PgAt w B p b (s : Int) fresh (o : Int) C bs) (hb : isBytes bs) (hs : 2 ≤ s) (ho : o + s ≤ 4096) : Calls Try.prog 64 #[.pointer (some ⟨p, 0, none⟩)] w fun e w' => e = .returned (.int .u16 (o : Int)) ∧ PgAt w' B p b (s : Int) fresh (getI bs o 2) C bs ∧ w.grownBy w' (some p) := by
  have H := Lib.hid h
  have HGT : Hid (∀ W, PgAt W B p b (s : Int) fresh (o : Int) C bs → Calls Try.prog 54 #[.slice (some ⟨p, 4 + o, none⟩) s (4096 - o), .int .i64 0] W fun e w' => e = .returned (.tuple #[.int .u16 (getI bs o 2), .bool true]) ∧ W = w') := fun W hW => get16_any B p b s o (s : Int) fresh (o : Int) C bs W hW hb hs ho
  generalize getI bs o 2 = g at *
  have c2 := h.c2
  have d1 : ((o : Int) == 65535) = false := by rw [beq_eq_false_iff_ne]; omega
  clear h hb
  go_enter Try.func64, Try.ntmps64
  go_wp2_with fail
  refine (at_any B p b s o fresh (o : Int) C bs w H.out hs ho).mono ?_
  rintro e w1 ⟨rfl, hb1⟩
  have H1 := Lib.hid (H.out.later hb1)
  have HB1 := Lib.hid hb1
  clear hb1 c2 H
  go_wp2_with fail
  refine (HGT.out w1 H1.out).mono ?_
  rintro e w2 ⟨rfl, rfl⟩
  clear HGT
  have c2 := H1.out.c2
  have f2 := H1.out.blk.frozen 2
  have HF : Hid (PgAt (w1.setCell ⟨p, 2, none⟩ (.int .u16 g)) B p b (s : Int) fresh g C bs) := H1.out.set2 _
  have HG : Hid (w.grownBy (w1.setCell ⟨p, 2, none⟩ (.int .u16 g)) (some p)) := grown_trans (grown_of_below' HB1.out (some p)) (grown_set _ p _ _)
  clear H1 HB1
  go_wp2
  go_ret
  exact ⟨rfl, HF.out, HG.out⟩
end Go.Proofs.Ytbncpfkoeahhpaa

/- clear; Alloc. -/
namespace Go.Proofs.Ytbncpfkoeahhpaa
open Go.ChangeShapes Go.WideShapes Go.ChangeAt Go.RowKit Go.Maps
set_option linter.unusedVariables false
set_option linter.unusedSimpArgs false

/-- bytes from a place on are 0 -/
def fillZ (bs : List Int) (o n : Nat) : List Int := bs.take o ++ List.replicate n 0 ++ bs.drop (o + n)
theorem fillZ_len {bs : List Int} {o n : Nat} (h : o + n ≤ bs.length) : (fillZ bs o n).length = bs.length := by unfold fillZ; simp; omega
theorem pgv_fill (slot fresh last : Int) (b : Nat) (bs : List Int) (o n : Nat) (v : List Int) (h : v.length = n) : (pgv slot fresh last b bs).take (4 + o) ++ v.map by8 ++ (pgv slot fresh last b bs).drop (4 + o + n) = pgv slot fresh last b (bs.take o ++ v ++ bs.drop (o + n)) := by
  rw [show 4 + o = o + 4 from by omega, show o + 4 + n = (o + n) + 4 from by omega]
  unfold pgv
  simp [List.map_append, List.map_take, List.map_drop]
theorem zero5 (w : World) : (zeroValue 5).run Try.prog w = .ok (.int .u8 0) w := by kernel_rfl
theorem blk_setRow {W : World} {g : Nat} {c c' : Array Value} {t : TypeId} (h : Blk W g c t) : Blk (W.setRow g c') g c' t := setRow_heap W g c c' t (0, 0) h
theorem grown_setRow (W : World) (g : Nat) (c : Array Value) : W.grownBy (W.setRow g c) (some g) := ⟨rfl, rfl, rfl, by simp, fun k _ hk => setRow_other W g k c (fun e => hk (by rw [e]))⟩
section
variable {W : World} {B p b : Nat} {slot fresh last : Int} {C bs : List Int}
/-- some of the bytes written -/
theorem PgAt.row (h : PgAt W B p b slot fresh last C bs) (o n : Nat) (v : List Int) (hv : v.length = n) (hn : o + n ≤ 4096) :
    PgAt (W.setRow p ((pgv slot fresh last b bs).take (4 + o) ++ v.map by8 ++ (pgv slot fresh last b bs).drop (4 + o + n)).toArray) B p b slot fresh last C (bs.take o ++ v ++ bs.drop (o + n)) :=
  ⟨h.hp, by rw [pgv_fill _ _ _ _ _ _ _ _ hv]; exact blk_setRow h.blk, ⟨h.own.1, h.own.2.kept (grown_setRow W p _) (fun e => h.ne (Option.some.inj e).symm)⟩, h.ok, by have := h.len; simp; omega⟩
theorem store_row (h : PgAt W B p b slot fresh last C bs) (o n : Nat) (v : List Int) (hv : v.length = n) (hn : o + n ≤ 4096) :
    (storeCells ⟨p, 4 + o, none⟩ (v.map by8)).run Try.prog W = .ok () (W.setRow p ((pgv slot fresh last b bs).take (4 + o) ++ v.map by8 ++ (pgv slot fresh last b bs).drop (4 + o + n)).toArray) := by
  have hs : (pgv slot fresh last b bs).toArray.size = 4100 := by have := h.len; simp [pgv]; omega
  have := run_storeCells_at Try.prog p (4 + o) 128 (v.map by8) 0 (pgv slot fresh last b bs).toArray W h.blk (by rw [hs]; simp; omega) (fun x hx => by
    obtain ⟨y, _, rfl⟩ := List.mem_map.1 hx; rfl)
  simpa [hv] using this
theorem clear_run (h : PgAt W B p b slot fresh last C bs) (o n c : Nat) (hn : o + n ≤ 4096) (ty : TypeId) :
    ∃ W', (Builtin.clear_ #[102] ty #[.slice (some ⟨p, 4 + o, none⟩) n c]).run Try.prog W = .ok (.tuple #[]) W' ∧ PgAt W' B p b slot fresh last C (fillZ bs o n) ∧ W.grownBy W' (some p) := by
  cases n with
  | zero =>
    refine ⟨W, ?_, by unfold fillZ; simpa using h, World.grownBy.refl _ _⟩
    simp [Builtin.clear_, run_underlying Try.underlying102]
  | succ n =>
    refine ⟨_, ?_, h.row o (n + 1) (List.replicate (n + 1) 0) (by simp) hn, grown_setRow _ _ _⟩
    have hz : (Builtin.zeroCells (Value.cells (.int .u8 0)) (n + 1)).toList = (List.replicate (n + 1) (0 : Int)).map by8 := by
      simp [Builtin.zeroCells, Value.cells, by8]
      rw [List.eq_replicate_iff]
      refine ⟨by simp, fun x hx => ?_⟩
      obtain ⟨i, _, rfl⟩ := List.mem_map.1 hx
      rw [Nat.mod_one]; rfl
    have hst := store_row h o (n + 1) (List.replicate (n + 1) 0) (by simp) hn
    rw [← hz] at hst
    simp [Builtin.clear_, run_underlying Try.underlying102, zero5, hst]
    rw [hz]; simp
theorem PgAt.turned {W' : World} {n : Nat} {D : List Int} (h : PgAt W B p b slot fresh last C bs) (hg : W.grownBy W' (some b)) (ho : W'.ownsMap Try.prog 87 unitElem b n (dm D)) (ok : Ok D) : PgAt W' B p b slot fresh last D bs :=
  ⟨h.hp, h.blk.grown hg (fun e => h.ne (Option.some.inj e)), ⟨h.own.1, own_tight ho⟩, ok, h.len⟩
end
theorem wf16 {x : Int} (h0 : 0 ≤ x) (h1 : x ≤ 65535) : (Lit.int .u16 x).wf = true := by
  simp only [Lit.wf, Bool.and_eq_true, decide_eq_true_eq]
  exact ⟨h0, h1⟩
set_option maxRecDepth 100000 in
set_option maxHeartbeats 4000000 in
theorem alloc_full (B p b : Nat) (slot fresh last : Int) (C bs : List Int) (w : World) (h : PgAt w B p b slot fresh last C bs) (h2 : 2 ≤ slot) (h3 : slot ≤ 4096) (hr : 4096 / slot - (C.length : Nat) = 0) : Calls Try.prog 46 #[.pointer (some ⟨p, 0, none⟩)] w fun e w' => e = .returned (.tuple #[.int .u16 0, .int .i64 41]) ∧ Below w.heap.size w w' := by
  have HR := Lib.hid (room_any B p b slot fresh last C bs w h h2 h3)
  rw [hr] at HR
  clear h h2 h3 hr
  go_enter Try.func46, Try.ntmps46
  go_wp2_with fail
  refine HR.out.mono ?_
  rintro e w1 ⟨rfl, hb⟩
  have HB := Lib.hid hb
  clear hb HR
  go_wp2
  go_ret2
  exact ⟨rfl, HB.out⟩
set_option maxRecDepth 100000 in
set_option maxHeartbeats 4000000 in
theorem alloc_of (B p b s o : Nat) (fresh last fresh' last' : Int) (C bs : List Int) (w : World) (h : PgAt w B p b (s : Int) fresh last C bs) (hs : 2 ≤ s) (ho : o + s ≤ 4096) (hr : ¬ 4096 / (s : Int) - (C.length : Nat) = 0)
    (HN : ∀ W, PgAt W B p b (s : Int) fresh last C bs → Calls Try.prog 64 #[.pointer (some ⟨p, 0, none⟩)] W fun e w' => e = .returned (.int .u16 (o : Int)) ∧ PgAt w' B p b (s : Int) fresh' last' C bs ∧ W.grownBy w' (some p)) :
    Calls Try.prog 46 #[.pointer (some ⟨p, 0, none⟩)] w fun e w' => e = .returned (.tuple #[.int .u16 (o : Int), .int .i64 0]) ∧ PgAt w' B p b (s : Int) fresh' last' (putC C o) (fillZ bs o s) ∧ Fr w w' p b := by
  have HR := Lib.hid (room_any B p b (s : Int) fresh last C bs w h (by omega) (by omega))
  obtain ⟨r, hrr⟩ : ∃ r : Int, 4096 / (s : Int) - (C.length : Nat) = r := ⟨_, rfl⟩
  rw [hrr] at HR hr
  have d1 : (r == 0) = false := by rw [beq_eq_false_iff_ne]; exact hr
  have H := Lib.hid h
  have HNN := Lib.hid HN
  have hlen := h.ok.len
  have hx : (Lit.int .u16 (o : Int)).wf = true := wf16 (by omega) (by omega)
  clear h hr hrr HN
  go_enter Try.func46, Try.ntmps46
  go_wp2_with fail
  refine HR.out.mono ?_
  rintro e w1 ⟨rfl, hb⟩
  have H1 := Lib.hid (H.out.later hb)
  have HF1 : Hid (Fr w w1 p b) := Fr.of_below hb
  clear hb HR H
  go_wp2_with fail
  refine (HNN.out w1 H1.out).mono ?_
  rintro e w2 ⟨rfl, h2, hg⟩
  have H2 := Lib.hid h2
  have HF2 : Hid (Fr w w2 p b) := HF1.out.trans (Fr.of_p hg)
  clear h2 hg HNN H1 HF1
  go_wp2_with fail
  refine (at_any B p b s o fresh' last' C bs w2 H2.out hs ho).mono ?_
  rintro e w3 ⟨rfl, hb⟩
  have H3 := Lib.hid (H2.out.later hb)
  have HF3 : Hid (Fr w w3 p b) := HF2.out.trans (Fr.of_below hb)
  clear hb H2 HF2
  obtain ⟨w4, hcl, h4, hg4⟩ := clear_run H3.out o s (4096 - o) ho 0
  have H4 := Lib.hid h4
  have HF4 : Hid (Fr w w4 p b) := HF3.out.trans (Fr.of_p hg4)
  have k3 := h4.c3
  have HM := Lib.hid h4.own.2
  clear h4 hg4 H3 HF3
  go_wp2_with (first
    | (at_mapUpdate; refine wpList_mapUpdate_own _ rfl _ _ _ 125 rfl 87 124 law23 Try.underlying125 _ b C.length _ rfl HM.out (by unfold maxLen; omega) _ _ _ rfl rfl (keyOf_int_mk Try.underlying87 hx) _ [] unitElem_mk ?_; intro w5 ho5)
    | go_in)
  intro hg5
  rw [put_dm] at ho5
  have HF := Lib.hid (H4.out.turned hg5 ho5 (H4.out.ok.put (by omega) (by omega)))
  have HG := Lib.hid (HF4.out.trans (Fr.of_b hg5))
  clear ho5 hg5 k3 hcl HM H4 HF4
  go_wp2
  go_ret2
  exact ⟨rfl, HF.out, HG.out⟩
end Go.Proofs.Ytbncpfkoeahhpaa

/- Free. -/
namespace Go.Proofs.Ytbncpfkoeahhpaa
open Go.ChangeShapes Go.WideShapes Go.ChangeAt Go.RowKit Go.Maps
set_option linter.unusedVariables false
set_option linter.unusedSimpArgs false

/-- a page, and all else as it was -/
structure PF (w W : World) (B p b : Nat) (slot fresh last : Int) (C bs : List Int) : Prop where
  a : PgAt W B p b slot fresh last C bs
  f : Fr w W p b
section
variable {w W W' : World} {B p b : Nat} {slot fresh last : Int} {C bs : List Int}
theorem PF.later (h : PF w W B p b slot fresh last C bs) (hb : Below W.heap.size W W') : PF w W' B p b slot fresh last C bs := ⟨h.a.later hb, h.f.trans (Fr.of_below hb)⟩
theorem PF.drew (h : PF w W B p b slot fresh last C bs) : PF w W.drew B p b slot fresh last C bs := h.later (Below.drew (Below.refl _ _))
end
set_option maxRecDepth 100000 in
set_option maxHeartbeats 4000000 in
theorem free_no (B p b : Nat) (slot fresh last : Int) (C bs : List Int) (x : Int) (w : World) (h : PgAt w B p b slot fresh last C bs) (hx : (Lit.int .u16 x).wf = true) (hi : isC C x = false) : Calls Try.prog 56 #[.pointer (some ⟨p, 0, none⟩), .int .u16 x] w fun e w' => e = .returned (.int .i64 5) ∧ Below w.heap.size w w' := by
  have HR := Lib.hid (refused_any B p b slot fresh last C bs x w h hx 5 (by rw [hi]; rfl))
  clear h hx hi
  go_enter Try.func56, Try.ntmps56
  go_wp2_with fail
  refine HR.out.mono ?_
  rintro e w1 ⟨rfl, hb⟩
  have HB := Lib.hid hb
  clear hb HR
  go_wp2
  go_ret
  exact ⟨rfl, HB.out⟩
set_option maxRecDepth 100000 in
set_option maxHeartbeats 4000000 in
theorem free_of (B p b s o : Nat) (fresh last : Int) (C bs : List Int) (w : World) (h : PgAt w B p b (s : Int) fresh last C bs) (hs : 2 ≤ s) (ho : o + s ≤ 4096) (hl : 0 ≤ last) (hi : isC C (o : Int) = true) : Calls Try.prog 56 #[.pointer (some ⟨p, 0, none⟩), .int .u16 (o : Int)] w fun e w' => e = .returned (.int .i64 0) ∧ PgAt w' B p b (s : Int) fresh (o : Int) (delC C o) (putI bs o 2 last) ∧ Fr w w' p b := by
  have hx : (Lit.int .u16 (o : Int)).wf = true := wf16 (by omega) (by omega)
  have HR := Lib.hid (refused_any B p b (s : Int) fresh last C bs o w h hx 0 (by rw [hi]; rfl))
  have H := Lib.hid h
  clear h hi
  go_enter Try.func56, Try.ntmps56
  go_wp2_with fail
  refine HR.out.mono ?_
  rintro e w1 ⟨rfl, hb⟩
  have H1 := Lib.hid (H.out.later hb)
  have HF1 : Hid (Fr w w1 p b) := Fr.of_below hb
  have k3 := H1.out.c3
  have HM := Lib.hid H1.out.own.2
  clear hb HR H
  go_wp2_with (first
    | (at_delete; refine wpList_delete_own _ rfl _ _ 125 87 rfl 124 law23 Try.underlying125 _ b C.length _ rfl HM.out _ _ rfl (keyOf_int_mk Try.underlying87 hx) ?_; intro w2 ho2)
    | go_in)
  intro ht2
  rw [del_dm] at ho2
  have HA : Hid (PF w w2 B p b (s : Int) fresh last (delC C o) bs) := ⟨H1.out.turned ht2.grown ho2 (H1.out.ok.del _), HF1.out.trans (Fr.of_b ht2.grown)⟩
  clear ho2 ht2 k3 HM H1 HF1
  obtain ⟨C2, hC2⟩ : ∃ x, delC C (o : Int) = x := ⟨_, rfl⟩
  rw [hC2] at HA
  have HC := Lib.hid hC2
  clear hC2
  have HAT : Hid (∀ W, PF w W B p b (s : Int) fresh last C2 bs → Calls Try.prog 65 #[.pointer (some ⟨p, 0, none⟩), .int .u16 (o : Int)] W fun e w' => e = .returned (.slice (some ⟨p, 4 + o, none⟩) s (4096 - o)) ∧ PF w w' B p b (s : Int) fresh last C2 bs) := fun W hW => (at_any B p b s o fresh last C2 bs W hW.a hs ho).mono (fun _ _ h => ⟨h.1, hW.later h.2⟩)
  have HPU : Hid (∀ W, PF w W B p b (s : Int) fresh last C2 bs → Calls Try.prog 51 #[.slice (some ⟨p, 4 + o, none⟩) s (4096 - o), .int .i64 0, .int .u16 last] W fun e w' => e = .returned (.bool true) ∧ PF w w' B p b (s : Int) fresh last C2 (putI bs o 2 last)) := fun W hW => (put16_any B p b s o (s : Int) fresh last C2 bs last W hW.a hl hs ho).mono (fun _ _ h => ⟨h.1, h.2.1, hW.f.trans (Fr.of_p h.2.2)⟩)
  have hA := HA.out
  have y1 := hA.a.c2
  have y2 := hA.drew.a.c2
  go_upto_region 5 with (fail)
  go_region_with (first
    | (go_at_call 65; refine (HAT.out _ (by first | assumption | exact PF.drew (by assumption))).mono ?_; rintro e wz ⟨rfl, hA⟩; have yz := hA.a.c2; have yzd := hA.drew.a.c2)
    | (go_at_call 51; refine (HPU.out _ (by first | assumption | exact PF.drew (by assumption))).mono ?_; rintro e wy ⟨rfl, hA⟩))
  all_goals (
    have HY := Lib.hid hA
    have f2 := hA.a.blk.frozen 2
    have f2d := hA.drew.a.blk.frozen 2
    have k2 := hA.a.c2
    have HF := Lib.hid (hA.a.set2 (o : Int))
    have HG : Hid (Fr w _ p b) := hA.f.trans (Fr.of_p (grown_set _ p 2 (.int .u16 (o : Int))))
    clear hA
    go_wp2
    go_ret
    exact ⟨rfl, by rw [HC.out]; exact HF.out, HG.out⟩)
end Go.Proofs.Ytbncpfkoeahhpaa

/- Read, Write. -/
namespace Go.Proofs.Ytbncpfkoeahhpaa
open Go.ChangeShapes Go.WideShapes Go.ChangeAt Go.RowKit Go.Maps
set_option linter.unusedVariables false
set_option linter.unusedSimpArgs false

/-- a text's bytes -/
def sb (S : ByteArray) : List Int := S.data.toList.map fun x => (x.toNat : Int)
theorem sb_len (S : ByteArray) : (sb S).length = S.size := by unfold sb; rw [List.length_map, Array.length_toList]; rfl
/-- a slot's bytes as a text -/
def rdS (bs : List Int) (o n : Nat) : ByteArray := strOfNums ((bs.drop o).take n)
/-- a text put into bytes -/
def putS (bs : List Int) (o : Nat) (S : ByteArray) : List Int := bs.take o ++ sb S ++ bs.drop (o + S.size)
section
variable {W : World} {B p b : Nat} {slot fresh last : Int} {C bs : List Int}
theorem conv_run (h : PgAt W B p b slot fresh last C bs) (o n c : Nat) (hn : o + n ≤ 4096) : (convert 102 9 (.slice (some ⟨p, 4 + o, none⟩) n c)).run Try.prog W = .ok (.string (rdS bs o n)) W := by
  have hl := h.len
  refine run_convert_bytes_arg W 102 5 Try.underlying102 Try.underlying5 p (4 + o) n c ((bs.drop o).take n) (by simp; omega) (fun i hi => ?_) 9 Try.underlying9
  have := h.cb (j := o + i) (by omega)
  rw [show 4 + (o + i) = 4 + o + i from by omega] at this
  rw [this]
  congr 2
  rw [List.getD_eq_getElem?_getD, List.getD_eq_getElem?_getD, List.getElem?_take_of_lt hi, List.getElem?_drop]
theorem copy_run (h : PgAt W B p b slot fresh last C bs) (o n c : Nat) (S : ByteArray) (hS : S.size ≤ n) (hn : o + n ≤ 4096) (ty : TypeId) :
    ∃ W', (Builtin.copy_ #[102, 9] ty #[.slice (some ⟨p, 4 + o, none⟩) n c, .string S]).run Try.prog W = .ok (.int .i64 (S.size : Int)) W' ∧ PgAt W' B p b slot fresh last C (putS bs o S) ∧ W.grownBy W' (some p) := by
  refine ⟨_, ?_, h.row o S.size (sb S) (sb_len S) (by omega), grown_setRow _ _ _⟩
  have hst := store_row h o S.size (sb S) (sb_len S) (by omega)
  have hb : (sb S).map by8 = byteCells S := by
    unfold sb byteCells by8
    rw [List.map_map]; rfl
  have hf := firstCells_string (P := Try.prog) S W
  have hm : Nat.min S.size n = S.size := Nat.min_eq_left hS
  rw [hb] at hst
  simp [Builtin.copy_, run_underlying Try.underlying102, Builtin.lenOf, size5, hm, hf, hst, hb, goInt]
theorem clear_nil (A : Option Addr) (c : Nat) (ty : TypeId) (W : World) : (Builtin.clear_ #[102] ty #[.slice A 0 c]).run Try.prog W = .ok (.tuple #[]) W := by
  cases A <;> simp [Builtin.clear_, run_underlying Try.underlying102]
theorem sl_from (p o m c n : Nat) (hn : n ≤ m) (hm : m ≤ c) (W : World) : ∃ A, (∀ W, (Instr.slice 102 (.slice (some ⟨p, o, none⟩) m c) (some (.int .i64 (n : Int))) none none).run Try.prog W = .ok (.slice A (m - n) (c - n)) W) ∧ (n < c → A = some ⟨p, o + n, none⟩) := by
  have ht' : Try.prog.underlying 102 = some (.slice (Try.prog.elem 102)) := by simp [Program.elem, Try.underlying102]
  refine ⟨some (if c = n then ⟨p, o, none⟩ else (⟨p, o, none⟩ : Addr).add (n * 1)), fun W => ?_, fun h => ?_⟩
  · rw [run_slice_l W 102 _ _ _ ht' .i64 _ (by omega) (by omega), el39, size5]
    by_cases e : c = n
    · simp [Result.andThen, sliced, e]
    · simp [Result.andThen, sliced, e]
  · rw [if_neg (by omega), Addr.add_mid, Nat.mul_one]
end
set_option maxRecDepth 100000 in
set_option maxHeartbeats 4000000 in
theorem read_no (B p b : Nat) (slot fresh last : Int) (C bs : List Int) (x : Int) (w : World) (h : PgAt w B p b slot fresh last C bs) (hx : (Lit.int .u16 x).wf = true) (hi : isC C x = false) : Calls Try.prog 52 #[.pointer (some ⟨p, 0, none⟩), .int .u16 x] w fun e w' => e = .returned (.tuple #[.string ByteArray.empty, .int .i64 5]) ∧ Below w.heap.size w w' := by
  have HR := Lib.hid (refused_any B p b slot fresh last C bs x w h hx 5 (by rw [hi]; rfl))
  clear h hx hi
  go_enter Try.func52, Try.ntmps52
  go_wp2_with fail
  refine HR.out.mono ?_
  rintro e w1 ⟨rfl, hb⟩
  have HB := Lib.hid hb
  clear hb HR
  go_wp2
  go_ret2
  exact ⟨rfl, HB.out⟩
set_option maxRecDepth 100000 in
set_option maxHeartbeats 4000000 in
theorem read_of (B p b s o : Nat) (fresh last : Int) (C bs : List Int) (w : World) (h : PgAt w B p b (s : Int) fresh last C bs) (hs : 2 ≤ s) (ho : o + s ≤ 4096) (hi : isC C (o : Int) = true) : Calls Try.prog 52 #[.pointer (some ⟨p, 0, none⟩), .int .u16 (o : Int)] w fun e w' => e = .returned (.tuple #[.string (rdS bs o s), .int .i64 0]) ∧ Below w.heap.size w w' := by
  have hx : (Lit.int .u16 (o : Int)).wf = true := wf16 (by omega) (by omega)
  have HR := Lib.hid (refused_any B p b (s : Int) fresh last C bs o w h hx 0 (by rw [hi]; rfl))
  have H := Lib.hid h
  obtain ⟨r, hr⟩ : ∃ r, rdS bs o s = r := ⟨_, rfl⟩
  have HCV : Hid (∀ W, PgAt W B p b (s : Int) fresh last C bs → (convert 102 9 (.slice (some ⟨p, 4 + o, none⟩) s (4096 - o))).run Try.prog W = .ok (.string r) W) := fun W hW => by rw [← hr]; exact conv_run hW o s _ ho
  rw [hr]
  clear h hi hr hx
  go_enter Try.func52, Try.ntmps52
  go_wp2_with fail
  refine HR.out.mono ?_
  rintro e w1 ⟨rfl, hb⟩
  have H1 := Lib.hid (H.out.later hb)
  have HB1 := Lib.hid hb
  clear hb HR H
  go_wp2_with fail
  refine (at_any B p b s o fresh last C bs w1 H1.out hs ho).mono ?_
  rintro e w2 ⟨rfl, hb⟩
  have hcv := HCV.out w2 (H1.out.later hb)
  have HB2 := Lib.hid (stepB HB1.out hb)
  clear hb HCV H1 HB1
  go_wp2
  go_ret2
  exact ⟨rfl, HB2.out⟩
set_option maxRecDepth 100000 in
set_option maxHeartbeats 4000000 in
theorem write_no (B p b : Nat) (slot fresh last : Int) (C bs : List Int) (x : Int) (S : ByteArray) (w : World) (h : PgAt w B p b slot fresh last C bs) (hx : (Lit.int .u16 x).wf = true) (hi : isC C x = false) : Calls Try.prog 49 #[.pointer (some ⟨p, 0, none⟩), .int .u16 x, .string S] w fun e w' => e = .returned (.int .i64 5) ∧ Below w.heap.size w w' := by
  have HR := Lib.hid (refused_any B p b slot fresh last C bs x w h hx 5 (by rw [hi]; rfl))
  clear h hx hi
  go_enter Try.func49, Try.ntmps49
  go_wp2_with fail
  refine HR.out.mono ?_
  rintro e w1 ⟨rfl, hb⟩
  have HB := Lib.hid hb
  clear hb HR
  go_wp2
  go_ret
  exact ⟨rfl, HB.out⟩
set_option maxRecDepth 100000 in
set_option maxHeartbeats 4000000 in
theorem write_long (B p b s o : Nat) (fresh last : Int) (C bs : List Int) (S : ByteArray) (w : World) (h : PgAt w B p b (s : Int) fresh last C bs) (ho : o ≤ 4095) (hi : isC C (o : Int) = true) (hS : s < S.size) : Calls Try.prog 49 #[.pointer (some ⟨p, 0, none⟩), .int .u16 (o : Int), .string S] w fun e w' => e = .returned (.int .i64 40) ∧ Below w.heap.size w w' := by
  have hx : (Lit.int .u16 (o : Int)).wf = true := wf16 (by omega) (by omega)
  have HR := Lib.hid (refused_any B p b (s : Int) fresh last C bs o w h hx 0 (by rw [hi]; rfl))
  have H := Lib.hid h
  have d1 : decide ((s : Int) < (S.size : Int)) = true := decide_eq_true (by omega)
  clear h hi hx
  go_enter Try.func49, Try.ntmps49
  go_wp2_with fail
  refine HR.out.mono ?_
  rintro e w1 ⟨rfl, hb⟩
  have k0 := (H.out.later hb).c0
  have HB1 := Lib.hid hb
  clear hb HR H
  go_wp2
  go_ret
  exact ⟨rfl, HB1.out⟩
set_option maxRecDepth 100000 in
set_option maxHeartbeats 4000000 in
theorem write_of (B p b s o : Nat) (fresh last : Int) (C bs : List Int) (S : ByteArray) (w : World) (h : PgAt w B p b (s : Int) fresh last C bs) (hs : 2 ≤ s) (ho : o + s ≤ 4096) (hi : isC C (o : Int) = true) (hS : S.size ≤ s) : Calls Try.prog 49 #[.pointer (some ⟨p, 0, none⟩), .int .u16 (o : Int), .string S] w fun e w' => e = .returned (.int .i64 0) ∧ PgAt w' B p b (s : Int) fresh last C (fillZ (putS bs o S) (o + S.size) (s - S.size)) ∧ Fr w w' p b := by
  have hx : (Lit.int .u16 (o : Int)).wf = true := wf16 (by omega) (by omega)
  have HR := Lib.hid (refused_any B p b (s : Int) fresh last C bs o w h hx 0 (by rw [hi]; rfl))
  have H := Lib.hid h
  have d1 : decide ((s : Int) < (S.size : Int)) = false := decide_eq_false (by omega)
  clear h hi hx
  go_enter Try.func49, Try.ntmps49
  go_wp2_with fail
  refine HR.out.mono ?_
  rintro e w1 ⟨rfl, hb⟩
  have H1 := Lib.hid (H.out.later hb)
  have HF1 : Hid (Fr w w1 p b) := Fr.of_below hb
  have k0 := H1.out.c0
  clear hb HR H
  go_wp2_with fail
  refine (at_any B p b s o fresh last C bs w1 H1.out hs ho).mono ?_
  rintro e w2 ⟨rfl, hb⟩
  have H2 := Lib.hid (H1.out.later hb)
  have HF2 : Hid (Fr w w2 p b) := HF1.out.trans (Fr.of_below hb)
  clear hb k0 H1 HF1
  obtain ⟨w3, hcp, h3, hg3⟩ := copy_run H2.out o s (4096 - o) S hS ho 3
  obtain ⟨A, hsl, hA⟩ := sl_from p (4 + o) s (4096 - o) S.size hS (by omega) w3
  have HF3 : Hid (Fr w w3 p b) := HF2.out.trans (Fr.of_p hg3)
  have hcl : ∃ w4, (Builtin.clear_ #[102] 0 #[.slice A (s - S.size) (4096 - o - S.size)]).run Try.prog w3 = .ok (.tuple #[]) w4 ∧ PgAt w4 B p b (s : Int) fresh last C (fillZ (putS bs o S) (o + S.size) (s - S.size)) ∧ Fr w w4 p b := by
    by_cases e : S.size = s
    · rw [show s - S.size = 0 from by omega]
      exact ⟨w3, clear_nil A _ 0 w3, by unfold fillZ; simpa using h3, HF3.out⟩
    · rw [hA (by omega)]
      obtain ⟨w4, h1, h2, h4⟩ := clear_run h3 (o + S.size) (s - S.size) (4096 - o - S.size) (by omega) 0
      rw [show 4 + (o + S.size) = 4 + o + S.size from by omega] at h1
      exact ⟨w4, h1, h2, HF3.out.trans (Fr.of_p h4)⟩
  obtain ⟨w4, hcl, h4, hf4⟩ := hcl
  have H4 := Lib.hid h4
  have HF4 := Lib.hid hf4
  clear h3 hg3 hA h4 hf4 H2 HF2 HF3
  go_wp2
  go_ret
  exact ⟨rfl, H4.out, HF4.out⟩
end Go.Proofs.Ytbncpfkoeahhpaa

/- The chain of the slots given back; what is written outside a slot. -/
namespace Go.Proofs.Ytbncpfkoeahhpaa
open Go.ChangeShapes Go.WideShapes Go.ChangeAt Go.RowKit Go.Maps
set_option linter.unusedVariables false
set_option linter.unusedSimpArgs false

/-- only the bytes of one slot change -/
def Out (bs bs' : List Int) (o s : Nat) : Prop := bs'.length = bs.length ∧ ∀ j, j < o ∨ o + s ≤ j → bs'.getD j 0 = bs.getD j 0
theorem getD_app (a b : List Int) (j : Nat) : (a ++ b).getD j 0 = if j < a.length then a.getD j 0 else b.getD (j - a.length) 0 := by
  rw [List.getD_eq_getElem?_getD]
  by_cases h : j < a.length
  · rw [if_pos h, List.getElem?_append_left h, List.getD_eq_getElem?_getD]
  · rw [if_neg h, List.getElem?_append_right (by omega), List.getD_eq_getElem?_getD]
theorem getD_take (a : List Int) (n j : Nat) (h : j < n) : (a.take n).getD j 0 = a.getD j 0 := by
  rw [List.getD_eq_getElem?_getD, List.getElem?_take_of_lt h, List.getD_eq_getElem?_getD]
theorem getD_drop (a : List Int) (n j : Nat) : (a.drop n).getD j 0 = a.getD (n + j) 0 := by
  rw [List.getD_eq_getElem?_getD, List.getElem?_drop, List.getD_eq_getElem?_getD]
theorem out_row {bs v : List Int} {o s : Nat} (hv : v.length ≤ s) (hn : o + s ≤ bs.length) : Out bs (bs.take o ++ v ++ bs.drop (o + v.length)) o s := by
  refine ⟨by simp; omega, fun j hj => ?_⟩
  have hl : (bs.take o).length = o := by rw [List.length_take]; omega
  rw [List.append_assoc, getD_app, hl]
  rcases hj with hj | hj
  · rw [if_pos hj, getD_take _ _ _ hj]
  · rw [if_neg (by omega), getD_app, if_neg (by omega), getD_drop]
    congr 1; omega
theorem Out.trans {a b c : List Int} {o s : Nat} (h : Out a b o s) (k : Out b c o s) : Out a c o s := ⟨k.1.trans h.1, fun j hj => (k.2 j hj).trans (h.2 j hj)⟩
theorem Out.wide {a b : List Int} {o s o2 s2 : Nat} (h : Out a b o2 s2) (h1 : o ≤ o2) (h2 : o2 + s2 ≤ o + s) : Out a b o s := ⟨h.1, fun j hj => h.2 j (by omega)⟩
theorem out_fill {bs : List Int} {o s : Nat} (hn : o + s ≤ bs.length) : Out bs (fillZ bs o s) o s := by
  have := out_row (bs := bs) (v := List.replicate s 0) (o := o) (s := s) (by simp) hn
  simpa [fillZ] using this
theorem out_put {bs : List Int} {o s : Nat} (m : Int) (hs : 2 ≤ s) : Out bs (putI bs o 2 m) o s := by
  refine ⟨putI_len o 2 bs m, fun j hj => ?_⟩
  show ((bs.set (o + 1) (m % 256)).set (o + 0) (m / 256 % 256)).getD j 0 = bs.getD j 0
  rw [List.getD_eq_getElem?_getD, List.getElem?_set_ne (by omega), List.getElem?_set_ne (by omega), List.getD_eq_getElem?_getD]
theorem out_write {bs : List Int} {o s : Nat} {S : ByteArray} (hS : S.size ≤ s) (hn : o + s ≤ bs.length) : Out bs (fillZ (putS bs o S) (o + S.size) (s - S.size)) o s := by
  have h1 := out_row (bs := bs) (v := sb S) (o := o) (s := s) (by rw [sb_len]; exact hS) hn
  rw [sb_len] at h1
  have h2 : Out (putS bs o S) (fillZ (putS bs o S) (o + S.size) (s - S.size)) (o + S.size) (s - S.size) := out_fill (by have := h1.1; unfold putS; omega)
  exact Out.trans h1 (h2.wide (by omega) (by omega))
theorem getI_out {bs bs' : List Int} {o s g : Nat} (h : Out bs bs' o s) (hg : g + 2 ≤ o ∨ o + s ≤ g) : getI bs' g 2 = getI bs g 2 := by
  show (0 * 256 + bs'.getD (g + 0) 0) * 256 + bs'.getD (g + 1) 0 = (0 * 256 + bs.getD (g + 0) 0) * 256 + bs.getD (g + 1) 0
  rw [h.2 (g + 0) (by omega), h.2 (g + 1) (by omega)]
theorem getI_put {bs : List Int} {o : Nat} {m : Int} (h0 : 0 ≤ m) (h1 : m ≤ 65535) (hn : o + 2 ≤ bs.length) : getI (putI bs o 2 m) o 2 = m := by
  show (0 * 256 + ((bs.set (o + 1) (m % 256)).set (o + 0) (m / 256 % 256)).getD (o + 0) 0) * 256 + ((bs.set (o + 1) (m % 256)).set (o + 0) (m / 256 % 256)).getD (o + 1) 0 = m
  have e1 : ((bs.set (o + 1) (m % 256)).set (o + 0) (m / 256 % 256)).getD (o + 0) 0 = m / 256 % 256 := by
    rw [List.getD_eq_getElem?_getD, List.getElem?_set_self (by simp; omega)]; rfl
  have e2 : ((bs.set (o + 1) (m % 256)).set (o + 0) (m / 256 % 256)).getD (o + 1) 0 = m % 256 := by
    rw [List.getD_eq_getElem?_getD, List.getElem?_set_ne (by omega), List.getElem?_set_self (by omega)]; rfl
  rw [e1, e2]
  omega
theorem bytes_of {bs bs' : List Int} {o s : Nat} (h : Out bs bs' o s) (hb : isBytes bs) (hin : ∀ j, o ≤ j → j < o + s → 0 ≤ bs'.getD j 0 ∧ bs'.getD j 0 < 256) : isBytes bs' := fun j hj => by
  by_cases e : j < o ∨ o + s ≤ j
  · rw [h.2 j e]; exact hb.getD j
  · exact hin j (by omega) (by omega)
theorem fill_in {bs : List Int} {o s j : Nat} (hn : o + s ≤ bs.length) (h1 : o ≤ j) (h2 : j < o + s) : (fillZ bs o s).getD j 0 = 0 := by
  have hl : (bs.take o).length = o := by rw [List.length_take]; omega
  unfold fillZ
  rw [List.append_assoc, getD_app, hl, if_neg (by omega), getD_app, List.length_replicate, if_pos (by omega), List.getD_eq_getElem?_getD, List.getElem?_replicate, if_pos (by omega)]
  rfl
theorem bytes_fill {bs : List Int} {o s : Nat} (hb : isBytes bs) (hn : o + s ≤ bs.length) : isBytes (fillZ bs o s) :=
  bytes_of (out_fill hn) hb (fun j h1 h2 => by rw [fill_in hn h1 h2]; omega)
theorem sb_in (S : ByteArray) (j : Nat) : 0 ≤ (sb S).getD j 0 ∧ (sb S).getD j 0 < 256 := by
  rw [List.getD_eq_getElem?_getD]
  unfold sb
  rw [List.getElem?_map]
  cases h : S.data.toList[j]? with
  | none => simp
  | some x =>
    have := x.toNat_lt
    simp only [Option.map_some, Option.getD_some]
    omega
theorem bytes_puts {bs : List Int} {o : Nat} {S : ByteArray} (hb : isBytes bs) (hn : o + S.size ≤ bs.length) : isBytes (putS bs o S) := by
  have h1 := out_row (bs := bs) (v := sb S) (o := o) (s := S.size) (by rw [sb_len]; exact Nat.le_refl _) hn
  rw [sb_len] at h1
  refine bytes_of h1 hb (fun j h2 h3 => ?_)
  have hl : (bs.take o).length = o := by rw [List.length_take]; omega
  unfold putS
  rw [List.append_assoc, getD_app, hl, if_neg (by omega), getD_app, sb_len, if_pos (by omega)]
  exact sb_in S _
/-- which slot was given back last, of a row of them -/
def hdF : List Nat → Int
  | [] => 65535
  | f :: _ => f
/-- each names the one ahead of it -/
def Chain (bs : List Int) : List Nat → Prop
  | [] => True
  | f :: r => getI bs f 2 = hdF r ∧ Chain bs r
theorem Chain.out {bs bs' : List Int} {o s : Nat} (h : Out bs bs' o s) : ∀ {F : List Nat}, Chain bs F → (∀ g ∈ F, g + 2 ≤ o ∨ o + s ≤ g) → Chain bs' F
  | [], _, _ => trivial
  | f :: r, hc, hg => ⟨(getI_out h (hg f (List.mem_cons_self ..))).trans hc.1, hc.2.out h (fun g hm => hg g (List.mem_cons_of_mem _ hm))⟩
theorem apart_mul {s i j : Nat} (h : i ≠ j) : i * s + s ≤ j * s ∨ j * s + s ≤ i * s := by
  rcases Nat.lt_or_gt_of_ne h with h | h
  · left
    have := Nat.mul_le_mul_right s (show i + 1 ≤ j from h)
    rw [Nat.add_mul, Nat.one_mul] at this; exact this
  · right
    have := Nat.mul_le_mul_right s (show j + 1 ≤ i from h)
    rw [Nat.add_mul, Nat.one_mul] at this; exact this
/-- m slots were used once; those of C are, those of F were given back -/
structure Inv (s m : Nat) (fresh last : Int) (C bs : List Int) (F : List Nat) : Prop where
  s2 : 2 ≤ s
  le : m * s ≤ 4096
  fr : fresh = ((m * s : Nat) : Int)
  ls : last = hdF F
  cm : ∀ x ∈ C, ∃ i, i < m ∧ x = ((i * s : Nat) : Int)
  fm : ∀ f ∈ F, ∃ i, i < m ∧ f = i * s
  nd : F.Nodup
  ap : ∀ f ∈ F, ((f : Nat) : Int) ∉ C
  ct : C.length + F.length = m
  ch : Chain bs F
  by_ : isBytes bs
  len : bs.length = 4096
theorem zsb : isBytes (List.replicate 4096 0) := fun i hi => by rw [List.getD_eq_getElem?_getD, List.getElem?_replicate]; split <;> simp
section
variable {s m : Nat} {fresh last : Int} {C bs : List Int} {F : List Nat}
theorem Inv.new (hs : 2 ≤ s) : Inv s 0 0 65535 [] (List.replicate 4096 0) [] :=
  ⟨hs, by omega, by simp, rfl, (fun _ h => by cases h), (fun _ h => by cases h), List.nodup_nil, (fun _ h => by cases h), rfl, trivial, zsb, List.length_replicate ..⟩
theorem len_put {C : List Int} {x : Int} (h : x ∉ C) : (putC C x).length = C.length + 1 := by
  unfold putC
  rw [len_ins, del_no (by cases e : isC C x with | false => rfl | true => exact absurd (is_mem.1 e) h)]
theorem mem_put {C : List Int} {x y : Int} : y ∈ putC C x ↔ y = x ∨ y ∈ C := by
  unfold putC
  rw [mem_ins, mem_del]
  constructor
  · rintro (h | h)
    · exact .inl h
    · exact .inr h.1
  · rintro (h | h)
    · exact .inl h
    · by_cases e : y = x
      · exact .inl e
      · exact .inr ⟨h, e⟩
theorem Inv.room (h : Inv s m fresh last C bs F) (hm : (m + 1) * s ≤ 4096) (hF : F = []) :
    ((m * s : Nat) : Int) ∉ C ∧ Inv s (m + 1) (((m + 1) * s : Nat) : Int) 65535 (putC C ((m * s : Nat) : Int)) (fillZ bs (m * s) s) [] := by
  subst hF
  have hms : m * s + s ≤ 4096 := by rw [Nat.add_mul, Nat.one_mul] at hm; exact hm
  have hn : ((m * s : Nat) : Int) ∉ C := fun hx => by
    obtain ⟨i, hi, e⟩ := h.cm _ hx
    rcases apart_mul (s := s) (show i ≠ m from by omega) with h1 | h1 <;> (have := h.s2; omega)
  refine ⟨hn, h.s2, hm, rfl, rfl, fun x hx => ?_, (fun _ h => by cases h), List.nodup_nil, (fun _ h => by cases h), by have := h.ct; rw [len_put hn]; simp at this ⊢; omega, trivial, bytes_fill h.by_ (by rw [h.len]; omega), (out_fill (by rw [h.len]; omega)).1.trans h.len⟩
  rcases mem_put.1 hx with rfl | hx
  · exact ⟨m, by omega, rfl⟩
  · obtain ⟨i, hi, e⟩ := h.cm _ hx
    exact ⟨i, by omega, e⟩
theorem Inv.back {f : Nat} {r : List Nat} (h : Inv s m fresh last C bs (f :: r)) :
    f + s ≤ 4096 ∧ ((f : Nat) : Int) ∉ C ∧ Inv s m fresh (getI bs f 2) (putC C (f : Int)) (fillZ bs f s) r := by
  obtain ⟨j, hj, ej⟩ := h.fm f (List.mem_cons_self ..)
  have hfs : f + s ≤ 4096 := by
    have := Nat.mul_le_mul_right s (show j + 1 ≤ m from hj)
    rw [Nat.add_mul, Nat.one_mul] at this
    have := h.le; omega
  have hn := h.ap f (List.mem_cons_self ..)
  have hnr := (List.nodup_cons.1 h.nd)
  have ho : Out bs (fillZ bs f s) f s := out_fill (by rw [h.len]; exact hfs)
  refine ⟨hfs, hn, h.s2, h.le, h.fr, h.ch.1, fun x hx => ?_, fun g hg => h.fm g (List.mem_cons_of_mem _ hg), hnr.2, fun g hg hc => ?_, by have := h.ct; rw [len_put hn]; simp at this ⊢; omega, h.ch.2.out ho (fun g hg => ?_), bytes_fill h.by_ (by rw [h.len]; exact hfs), ho.1.trans h.len⟩
  · rcases mem_put.1 hx with rfl | hx
    · exact ⟨j, hj, by rw [ej]⟩
    · exact h.cm _ hx
  · rcases mem_put.1 hc with e | e
    · exact hnr.1 (by have : g = f := by omega
                      rw [← this]; exact hg)
    · exact h.ap g (List.mem_cons_of_mem _ hg) e
  · obtain ⟨i, hi, ei⟩ := h.fm g (List.mem_cons_of_mem _ hg)
    have hij : i ≠ j := fun e => hnr.1 (by rw [ej, ← e, ← ei]; exact hg)
    have := h.s2
    rcases apart_mul (s := s) hij with h1 | h1 <;> omega
theorem hdF_rg (h : Inv s m fresh last C bs F) : 0 ≤ last ∧ last ≤ 65535 := by
  rw [h.ls]
  cases F with
  | nil => exact ⟨by decide, by decide⟩
  | cons f r =>
    obtain ⟨j, hj, ej⟩ := h.fm f (List.mem_cons_self ..)
    have := Nat.mul_le_mul_right s (show j ≤ m from by omega)
    have := h.le
    show 0 ≤ ((f : Nat) : Int) ∧ ((f : Nat) : Int) ≤ 65535
    omega
theorem Inv.at_ (h : Inv s m fresh last C bs F) {x : Int} (hx : x ∈ C) : ∃ o : Nat, x = (o : Int) ∧ o + s ≤ 4096 ∧ o % s = 0 ∧ ∀ g ∈ F, g + s ≤ o ∨ o + s ≤ g := by
  obtain ⟨i, hi, e⟩ := h.cm x hx
  have := Nat.mul_le_mul_right s (show i + 1 ≤ m from hi)
  rw [Nat.add_mul, Nat.one_mul] at this
  have := h.le
  refine ⟨i * s, e, by omega, Nat.mul_mod_left i s, fun g hg => ?_⟩
  obtain ⟨j, hj, ej⟩ := h.fm g hg
  rw [ej]
  refine apart_mul (fun e2 => h.ap g hg ?_)
  rw [ej, e2, ← e]; exact hx
theorem Inv.wrote (h : Inv s m fresh last C bs F) {o : Nat} (hx : (o : Int) ∈ C) {S : ByteArray} (hS : S.size ≤ s) : Inv s m fresh last C (fillZ (putS bs o S) (o + S.size) (s - S.size)) F := by
  obtain ⟨o', e, ho, _, hg⟩ := h.at_ hx
  obtain rfl : o = o' := by omega
  have hw : Out bs (fillZ (putS bs o S) (o + S.size) (s - S.size)) o s := out_write hS (by rw [h.len]; exact ho)
  have hp : (putS bs o S).length = 4096 := by
    have := (out_row (bs := bs) (v := sb S) (o := o) (s := s) (by rw [sb_len]; exact hS) (by rw [h.len]; exact ho)).1
    rw [sb_len] at this
    exact this.trans h.len
  refine ⟨h.s2, h.le, h.fr, h.ls, h.cm, h.fm, h.nd, h.ap, h.ct, h.ch.out hw (fun g hm => ?_), bytes_fill (bytes_puts h.by_ (by rw [h.len]; omega)) (by rw [hp]; omega), hw.1.trans h.len⟩
  have := hg g hm
  have := h.s2
  omega
theorem len_del {C : List Int} {x : Int} (hu : C.Pairwise (fun p q => p < q)) (h : x ∈ C) : (delC C x).length + 1 = C.length := by
  induction C with
  | nil => cases h
  | cons y r ih =>
    unfold delC at ih ⊢
    have hp := List.pairwise_cons.1 hu
    by_cases e : y = x
    · subst e
      rw [List.filter_cons_of_neg (by simp), List.filter_eq_self.2 (fun p hp2 => decide_eq_true (by have := hp.1 p hp2; omega))]
      rfl
    · rw [List.filter_cons_of_pos (by simpa using e)]
      have := ih hp.2 (by
        rcases List.mem_cons.1 h with h | h
        · exact absurd h.symm e
        · exact h)
      rw [List.length_cons, List.length_cons]; omega
theorem Inv.freed (h : Inv s m fresh last C bs F) (hu : C.Pairwise (fun p q => p < q)) {o : Nat} (hx : (o : Int) ∈ C) : Inv s m fresh (o : Int) (delC C o) (putI bs o 2 last) (o :: F) := by
  obtain ⟨o', e, ho, _, hg⟩ := h.at_ hx
  obtain rfl : o = o' := by omega
  have hs := h.s2
  have hw : Out bs (putI bs o 2 last) o s := out_put last hs
  obtain ⟨l0, l1⟩ := hdF_rg h
  refine ⟨hs, h.le, h.fr, rfl, fun x hm => h.cm x (mem_del.1 hm).1, fun g hm => ?_, List.nodup_cons.2 ⟨fun hm => h.ap o hm hx, h.nd⟩, fun g hm hc => ?_, by have := h.ct; have := len_del hu hx; simp; omega, ⟨(getI_put l0 l1 (by rw [h.len]; omega)).trans h.ls, h.ch.out hw (fun g hm => by have := hg g hm; omega)⟩, h.by_.putI 2 _ _, hw.1.trans h.len⟩
  · rcases List.mem_cons.1 hm with rfl | hm
    · obtain ⟨i, hi, e⟩ := h.cm _ hx
      exact ⟨i, hi, by omega⟩
    · exact h.fm g hm
  · have := mem_del.1 hc
    rcases List.mem_cons.1 hm with rfl | hm
    · exact this.2 rfl
    · exact h.ap g hm this.1
end
end Go.Proofs.Ytbncpfkoeahhpaa

/- Alloc, Free, Write, Read of a page whose chain is right. -/
namespace Go.Proofs.Ytbncpfkoeahhpaa
open Go.ChangeShapes Go.WideShapes Go.ChangeAt Go.RowKit Go.Maps
set_option linter.unusedVariables false
set_option linter.unusedSimpArgs false

/-- a page, and its chain -/
structure Pg (W : World) (B p b s m : Nat) (C bs : List Int) (F : List Nat) : Prop where
  at_ : PgAt W B p b (s : Int) ((m * s : Nat) : Int) (hdF F) C bs
  inv : Inv s m ((m * s : Nat) : Int) (hdF F) C bs F
section
variable {W W' : World} {B p b s m : Nat} {C bs : List Int} {F : List Nat}
theorem Pg.later (h : Pg W B p b s m C bs F) (hb : Below W.heap.size W W') : Pg W' B p b s m C bs F := ⟨h.at_.later hb, h.inv⟩
theorem Pg.base {B' : Nat} (h : Pg W B p b s m C bs F) (hb : B' ≤ B) : Pg W B' p b s m C bs F := ⟨h.at_.base hb, h.inv⟩
theorem Pg.of {fresh last : Int} (h : PgAt W B p b (s : Int) fresh last C bs) (i : Inv s m fresh last C bs F) : Pg W B p b s m C bs F := by
  have e1 := i.fr
  have e2 := i.ls
  subst e1 e2
  exact ⟨h, i⟩
theorem Pg.s4 (h : Pg W B p b s m C bs F) (hs : s ≤ 4096) : 2 ≤ (s : Int) ∧ (s : Int) ≤ 4096 := by have := h.inv.s2; omega
/-- is there no room? -/
theorem Pg.room (h : Pg W B p b s m C bs F) : 4096 / (s : Int) - (C.length : Nat) = ((4096 / s - C.length : Nat) : Int) ∧ C.length ≤ 4096 / s := by
  have h1 := h.inv.ct
  have h2 := h.inv.le
  have h3 := h.inv.s2
  have h4 : m ≤ 4096 / s := (Nat.le_div_iff_mul_le (by omega)).2 h2
  have h5 : (4096 : Int) / (s : Int) = ((4096 / s : Nat) : Int) := by rw [Int.natCast_ediv]; rfl
  rw [h5]
  omega
end
/-- what Alloc makes of a page -/
def allC (s m : Nat) (C : List Int) (F : List Nat) : Nat := match F with | [] => m * s | f :: _ => f
theorem pg_full (B p b s m : Nat) (C bs : List Int) (F : List Nat) (w : World) (h : Pg w B p b s m C bs F) (hs : s ≤ 4096) (hr : C.length = 4096 / s) : Calls Try.prog 46 #[.pointer (some ⟨p, 0, none⟩)] w fun e w' => e = .returned (.tuple #[.int .u16 0, .int .i64 41]) ∧ Below w.heap.size w w' :=
  alloc_full B p b (s : Int) _ _ C bs w h.at_ (h.s4 hs).1 (h.s4 hs).2 (by rw [h.room.1, hr, Nat.sub_self]; rfl)
theorem pg_alloc (B p b s m : Nat) (C bs : List Int) (F : List Nat) (w : World) (h : Pg w B p b s m C bs F) (hr : C.length < 4096 / s) : Calls Try.prog 46 #[.pointer (some ⟨p, 0, none⟩)] w fun e w' => e = .returned (.tuple #[.int .u16 ((allC s m C F : Nat) : Int), .int .i64 0]) ∧ ∃ m' F', Pg w' B p b s m' (putC C ((allC s m C F : Nat) : Int)) (fillZ bs (allC s m C F) s) F' ∧ Fr w w' p b := by
  have hr0 : ¬ 4096 / (s : Int) - (C.length : Nat) = 0 := by rw [h.room.1]; omega
  have hs2 := h.inv.s2
  cases F with
  | nil =>
    have hct := h.inv.ct
    have hm : (m + 1) * s ≤ 4096 := by
      have h1 : m + 1 ≤ 4096 / s := by simp at hct; omega
      exact (Nat.le_div_iff_mul_le (by omega)).1 h1
    have hms : m * s + s ≤ 4096 := by rw [Nat.add_mul, Nat.one_mul] at hm; exact hm
    have hi := (h.inv.room hm rfl).2
    refine (alloc_of B p b s (m * s) ((m * s : Nat) : Int) 65535 (((m + 1) * s : Nat) : Int) 65535 C bs w h.at_ hs2 hms hr0 (fun W hW => ?_)).mono ?_
    · have e := next_fresh B p b (s : Int) ((m * s : Nat) : Int) C bs W hW (by omega) (by omega) (by omega) (by omega)
      rw [show ((m * s : Nat) : Int) + (s : Int) = (((m + 1) * s : Nat) : Int) from by rw [Nat.add_mul, Nat.one_mul]; omega] at e
      exact e
    · rintro e w' ⟨rfl, h1, h2⟩
      exact ⟨rfl, m + 1, [], Pg.of h1 hi, h2⟩
  | cons f r =>
    obtain ⟨hfs, hn, hi⟩ := h.inv.back
    refine (alloc_of B p b s f ((m * s : Nat) : Int) (f : Int) ((m * s : Nat) : Int) (getI bs f 2) C bs w h.at_ hs2 hfs hr0 (fun W hW => next_back B p b s f ((m * s : Nat) : Int) C bs W hW h.inv.by_ hs2 hfs)).mono ?_
    rintro e w' ⟨rfl, h1, h2⟩
    exact ⟨rfl, m, r, Pg.of h1 hi, h2⟩
theorem pg_alloc_new {W : World} {B p b s m : Nat} {C bs : List Int} {F : List Nat} (h : Pg W B p b s m C bs F) (hr : C.length < 4096 / s) : ((allC s m C F : Nat) : Int) ∉ C ∧ allC s m C F + s ≤ 4096 := by
  have hs2 := h.inv.s2
  cases F with
  | nil =>
    have hct := h.inv.ct
    have hm : (m + 1) * s ≤ 4096 := by
      have h1 : m + 1 ≤ 4096 / s := by simp at hct; omega
      exact (Nat.le_div_iff_mul_le (by omega)).1 h1
    have hms : m * s + s ≤ 4096 := by rw [Nat.add_mul, Nat.one_mul] at hm; exact hm
    exact ⟨(h.inv.room hm rfl).1, hms⟩
  | cons f r => exact ⟨h.inv.back.2.1, h.inv.back.1⟩
theorem pg_free (B p b s m : Nat) (C bs : List Int) (F : List Nat) (x : Int) (w : World) (h : Pg w B p b s m C bs F) (hx : x ∈ C) : Calls Try.prog 56 #[.pointer (some ⟨p, 0, none⟩), .int .u16 x] w fun e w' => e = .returned (.int .i64 0) ∧ ∃ bs' F', Pg w' B p b s m (delC C x) bs' F' ∧ Fr w w' p b ∧ Out bs bs' x.toNat s := by
  obtain ⟨o, rfl, ho, _, _⟩ := h.inv.at_ hx
  refine (free_of B p b s o ((m * s : Nat) : Int) (hdF F) C bs w h.at_ h.inv.s2 ho (hdF_rg h.inv).1 (is_mem.2 hx)).mono ?_
  rintro e w' ⟨rfl, h1, h2⟩
  exact ⟨rfl, _, o :: F, Pg.of h1 (h.inv.freed h.at_.ok.up hx), h2, out_put _ h.inv.s2⟩
theorem pg_free_no (B p b s m : Nat) (C bs : List Int) (F : List Nat) (x : Int) (w : World) (h : Pg w B p b s m C bs F) (hw : (Lit.int .u16 x).wf = true) (hx : x ∉ C) : Calls Try.prog 56 #[.pointer (some ⟨p, 0, none⟩), .int .u16 x] w fun e w' => e = .returned (.int .i64 5) ∧ Below w.heap.size w w' :=
  free_no B p b (s : Int) _ _ C bs x w h.at_ hw (by cases e : isC C x with | false => rfl | true => exact absurd (is_mem.1 e) hx)
theorem pg_write (B p b s m : Nat) (C bs : List Int) (F : List Nat) (x : Int) (S : ByteArray) (w : World) (h : Pg w B p b s m C bs F) (hw : (Lit.int .u16 x).wf = true) (hs : s ≤ 4096) : Calls Try.prog 49 #[.pointer (some ⟨p, 0, none⟩), .int .u16 x, .string S] w fun e w' => (∃ r : Int, e = .returned (.int .i64 r)) ∧ ∃ bs', Pg w' B p b s m C bs' F ∧ Fr w w' p b ∧ (bs' = bs ∨ x ∈ C ∧ Out bs bs' x.toNat s) := by
  by_cases hx : x ∈ C
  · obtain ⟨o, rfl, ho, _, _⟩ := h.inv.at_ hx
    by_cases hS : S.size ≤ s
    · refine (write_of B p b s o _ _ C bs S w h.at_ h.inv.s2 ho (is_mem.2 hx) hS).mono ?_
      rintro e w' ⟨rfl, h1, h2⟩
      exact ⟨⟨_, rfl⟩, _, Pg.of h1 (h.inv.wrote hx hS), h2, .inr ⟨hx, out_write hS (by rw [h.inv.len]; exact ho)⟩⟩
    · refine (write_long B p b s o _ _ C bs S w h.at_ (by have := h.inv.s2; omega) (is_mem.2 hx) (by omega)).mono ?_
      rintro e w' ⟨rfl, hb⟩
      exact ⟨⟨_, rfl⟩, bs, h.later hb, Fr.of_below hb, .inl rfl⟩
  · refine (write_no B p b (s : Int) _ _ C bs x S w h.at_ hw (by cases e : isC C x with | false => rfl | true => exact absurd (is_mem.1 e) hx)).mono ?_
    rintro e w' ⟨rfl, hb⟩
    exact ⟨⟨_, rfl⟩, bs, h.later hb, Fr.of_below hb, .inl rfl⟩
theorem pg_new (s : Nat) (w : World) (h1 : 2 ≤ s) (h2 : s ≤ 4096) : Calls Try.prog 61 #[.int .i64 (s : Int)] w fun e w' => e = .returned (.tuple #[.pointer (some ⟨w.heap.size + 1, 0, none⟩), .int .i64 0]) ∧ Pg w' w.heap.size (w.heap.size + 1) w.heap.size s 0 [] (List.replicate 4096 0) [] ∧ Below w.heap.size w w' :=
  (new_any (s : Int) w (by omega) (by omega)).mono (fun _ _ h => ⟨h.1, Pg.of h.2.1 (Inv.new h1), h.2.2⟩)
end Go.Proofs.Ytbncpfkoeahhpaa

/- Of the page's texts: what else is wanted. -/
namespace Go.Proofs.Ytbncpfkoeahhpaa
open Go.ChangeShapes Go.WideShapes Go.ChangeAt Go.RowKit Go.Maps
set_option linter.unusedVariables false
set_option linter.unusedSimpArgs false

theorem info5 : ∃ i : TypeInfo, Try.prog.info? 5 = some i ∧ i.zero = some (.int .u8 0) ∧ i.size = 1 ∧ i.bytes = 1 := by
  have h : (Try.prog.info? 5).map (fun i => (i.zero, i.size, i.bytes)) = some (some (.int .u8 0), 1, 1) := by kernel_rfl
  cases hi : Try.prog.info? 5 with
  | none => rw [hi] at h; cases h
  | some i => rw [hi] at h; simp only [Option.map_some, Option.some.injEq, Prod.mk.injEq] at h; exact ⟨i, rfl, h.1, h.2.1, h.2.2⟩
theorem PgAt.fr {W W' : World} {B p b q c : Nat} {slot fresh last : Int} {C bs : List Int} (h : PgAt W B q c slot fresh last C bs) (hf : Fr W W' p b) (h1 : q ≠ p) (h2 : q ≠ b) (h3 : c ≠ p) (h4 : c ≠ b) : PgAt W' B q c slot fresh last C bs :=
  ⟨h.hp, hf.blk h.blk h1 h2, ⟨h.own.1, by
    obtain ⟨es, clock, hb, r⟩ := h.own.2
    exact ⟨es, clock, (hf.block c h.blt h3 h4).trans hb, r⟩⟩, h.ok, h.len⟩
theorem mk_z (n : Nat) (hn : n ≤ 100000) (W : World) : (Instr.makeSlice 102 (.int .i64 (n : Int)) (.int .i64 (n : Int))).run Try.prog W = .ok (.slice (some ⟨W.heap.size, 0, none⟩) n n) (W.alloc (.cells (madeCells #[.int .u8 0] n) 5)) := by
  obtain ⟨i, hi, hz, hs, hb⟩ := info5
  have := run_make (P := Try.prog) W 102 5 i (.int .u8 0) Try.underlying102 hi hz .i64 .i64 n n (by omega) (by omega) (by rw [hb]; omega) (by omega)
  rw [hs] at this
  simpa [Value.cells] using this
theorem made_at' (n j : Nat) (h : j < n) : (madeCells #[Value.int .u8 0] n)[j]? = some (.int .u8 0) := by
  unfold madeCells
  simp [h, Nat.mod_one]
theorem conv_z (n : Nat) (W : World) : (convert 102 9 (.slice (some ⟨W.heap.size, 0, none⟩) n n)).run Try.prog (W.alloc (.cells (madeCells #[.int .u8 0] n) 5)) = .ok (.string (strOfNums (List.replicate n 0))) (W.alloc (.cells (madeCells #[.int .u8 0] n) 5)) := by
  refine run_convert_bytes_arg _ 102 5 Try.underlying102 Try.underlying5 _ 0 n n (List.replicate n 0) (by simp) (fun i hi => ?_) 9 Try.underlying9
  have hc := (Blk.new W (madeCells #[.int .u8 0] n) 5).cell i
  rw [Nat.zero_add, hc, made_at' n i hi, List.getD_eq_getElem?_getD, List.getElem?_replicate, if_pos hi]
  rfl
theorem str_size (n : Nat) : (strOfNums (List.replicate n 0)).size = n := by rw [strOfNums_size, List.length_replicate]
theorem quo_s {s : Nat} (h2 : 2 ≤ s) : Int.tdiv 4096 (s : Int) = ((4096 / s : Nat) : Int) ∧ IntKind.i64.wrap ((4096 / s : Nat) : Int) = ((4096 / s : Nat) : Int) := by
  have : 4096 / s ≤ 4096 := Nat.div_le_self _ _
  refine ⟨?_, by generalize 4096 / s = r at *; exact IntWalk.i64_in _ (by omega)⟩
  rw [Int.tdiv_eq_ediv_of_nonneg (by omega), Int.natCast_ediv]; rfl
theorem room_pg (B p b s m : Nat) (C bs : List Int) (F : List Nat) (w : World) (h : Pg w B p b s m C bs F) (hs : s ≤ 4096) : Calls Try.prog 63 #[.pointer (some ⟨p, 0, none⟩)] w fun e w' => e = .returned (.int .i64 (((4096 / s : Nat) : Int) - (C.length : Nat))) ∧ Below w.heap.size w w' := by
  have h1 := room_any B p b (s : Int) _ _ C bs w h.at_ (h.s4 hs).1 (h.s4 hs).2
  rw [show (4096 : Int) / (s : Int) = ((4096 / s : Nat) : Int) from by rw [Int.natCast_ediv]; rfl] at h1
  exact h1
theorem rdS_size {bs : List Int} {o n : Nat} (h : o + n ≤ bs.length) : (rdS bs o n).size = n := by
  unfold rdS strOfNums
  show (List.toArray _).size = n
  simp
  omega
theorem rdS_same {bs bs' : List Int} {o n : Nat} (hl : bs'.length = bs.length) (h : ∀ j, o ≤ j → j < o + n → bs'.getD j 0 = bs.getD j 0) : rdS bs' o n = rdS bs o n := by
  unfold rdS
  congr 1
  apply List.ext_getElem?
  intro j
  rw [List.getElem?_take, List.getElem?_take]
  by_cases hj : j < n
  · rw [if_pos hj, if_pos hj, List.getElem?_drop, List.getElem?_drop]
    have := h (o + j) (by omega) (by omega)
    rw [List.getD_eq_getElem?_getD, List.getD_eq_getElem?_getD] at this
    by_cases e : o + j < bs.length
    · rw [List.getElem?_eq_getElem e, List.getElem?_eq_getElem (by omega)] at this ⊢
      simpa using this
    · rw [List.getElem?_eq_none (by omega), List.getElem?_eq_none (by omega)]
  · rw [if_neg hj, if_neg hj]
theorem rdS_out {bs bs' : List Int} {o s x : Nat} (h : Out bs bs' o s) (hx : x + s ≤ o ∨ o + s ≤ x) : rdS bs' x s = rdS bs x s :=
  rdS_same h.1 (fun j h1 h2 => h.2 j (by omega))
variable {W W' : World} {B p b s m : Nat} {C bs : List Int} {F : List Nat} {fresh last : Int} in
theorem Inv.apart (h : Inv s m fresh last C bs F) {x y : Int} (hx : x ∈ C) (hy : y ∈ C) (hne : x ≠ y) : x.toNat + s ≤ y.toNat ∨ y.toNat + s ≤ x.toNat := by
  obtain ⟨i, _, ei⟩ := h.cm x hx
  obtain ⟨j, _, ej⟩ := h.cm y hy
  have e1 : x.toNat = i * s := by omega
  have e2 : y.toNat = j * s := by omega
  rw [e1, e2]
  exact apart_mul (fun e => hne (by rw [ei, ej, e]))
theorem read_pg (B p b s m : Nat) (C bs : List Int) (F : List Nat) (x : Int) (w : World) (h : Pg w B p b s m C bs F) (hx : x ∈ C) : Calls Try.prog 52 #[.pointer (some ⟨p, 0, none⟩), .int .u16 x] w fun e w' => e = .returned (.tuple #[.string (rdS bs x.toNat s), .int .i64 0]) ∧ Below w.heap.size w w' := by
  obtain ⟨o, rfl, ho, _, _⟩ := h.inv.at_ hx
  exact read_of B p b s o _ _ C bs w h.at_ h.inv.s2 ho (is_mem.2 hx)
theorem read_pg_no (B p b s m : Nat) (C bs : List Int) (F : List Nat) (x : Int) (w : World) (h : Pg w B p b s m C bs F) (hw : (Lit.int .u16 x).wf = true) (hx : x ∉ C) : Calls Try.prog 52 #[.pointer (some ⟨p, 0, none⟩), .int .u16 x] w fun e w' => e = .returned (.tuple #[.string ByteArray.empty, .int .i64 5]) ∧ Below w.heap.size w w' :=
  read_no B p b _ _ _ C bs x w h.at_ hw (by cases e : isC C x with | false => rfl | true => exact absurd (is_mem.1 e) hx)
theorem fill_rd {bs : List Int} {o s : Nat} (h : o + s ≤ bs.length) : rdS (fillZ bs o s) o s = strOfNums (List.replicate s 0) := by
  unfold rdS fillZ
  congr 1
  have hl : (bs.take o).length = o := by rw [List.length_take]; omega
  rw [List.append_assoc]
  have h1 : ∀ (a r : List Int), a.length = o → (a ++ r).drop o = r := fun a r h => by subst h; exact List.drop_left ..
  have h2 : ∀ (a r : List Int), a.length = s → (a ++ r).take s = a := fun a r h => by subst h; exact List.take_left ..
  rw [h1 _ _ hl, h2 _ _ (by simp)]
theorem rg16 {x : Int} (h : (Lit.int .u16 x).wf = true) : 0 ≤ x ∧ x ≤ 65535 := by
  simp only [Lit.wf, Bool.and_eq_true, decide_eq_true_eq] at h
  exact ⟨h.1, h.2⟩
theorem Fr.grown {w w1 w2 : World} {p b : Nat} {g : Option Nat} (h : Fr w w1 p b) (hg : w1.grownBy w2 g) (hn : ∀ k, g = some k → w.heap.size ≤ k) : Fr w w2 p b :=
  ⟨hg.os.trans h.os, hg.tape.trans h.tape, hg.output.trans h.output, Nat.le_trans h.size hg.size, fun k hk h1 h2 => (hg.block k (Nat.lt_of_lt_of_le hk h.size) (fun e => by have := hn k e.symm; omega)).trans (h.block k hk h1 h2)⟩
theorem Fr.later {w w1 w2 : World} {p b : Nat} (h : Fr w w1 p b) (hb : Below w1.heap.size w1 w2) : Fr w w2 p b := h.trans (Fr.of_below hb)
end Go.Proofs.Ytbncpfkoeahhpaa
