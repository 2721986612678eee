/- The rows of the refusals. -/
import Derived.Test.YtoinjnocopejjaaFD
import Derived.Test.YtoinjnocopejjaaOC
import Derived.Test.YtoinjnocopejjaaFU
import Derived.Test.YtoinjnocopejjaaON
import Derived.Test.YtoinjnocopejjaaWO
namespace Go.Proofs.Ytoinjnocopejjaa
open Go.ChangeShapes Go.WideShapes Go.ChangeAt Go.RowKit Go.Maps
set_option linter.unusedVariables false
set_option linter.unusedSimpArgs false
theorem rs_of {α : Type} {enc : α → List Value} {k : Nat} (hk : ∀ x, (enc x).length = k) {W : World} {g : Nat} {L : List α} {t : TypeId} (h : Blk W g (rv enc L).toArray t) : RSl enc k W (some ⟨g, 0, none⟩) L.length L :=
  ⟨rfl, fun _ => ⟨g, 0, rfl, h.lt, fun j x hx i hi => by
    rw [h.cell, List.getElem?_toArray, Nat.zero_add]
    exact rv_at hk L j i x hx hi⟩⟩
abbrev Rq := Int × Cl × Int
def rqE (x : Rq) : List Value := .int .i64 x.1 :: (clE x.2.1 ++ [.int .i64 x.2.2])
theorem rqE_len (x : Rq) : (rqE x).length = 9 := rfl
def rwL : List Rq := [((-1), (1, 0, { data := #[] }, { data := #[] }, { data := #[] }, 0, 0), 1), (2, (1, 0, { data := #[] }, { data := #[] }, { data := #[] }, 0, 0), 1), (0, (0, 0, { data := #[] }, { data := #[] }, { data := #[] }, 0, 0), 1), (0, (10, 0, { data := #[] }, { data := #[] }, { data := #[] }, 0, 0), 1), (0, (9, 0, { data := #[] }, { data := #[] }, { data := #[] }, 0, 0), 1), (0, (9, 0, { data := #[] }, { data := #[] }, { data := #[] }, 0, 3), 1), (0, (9, 0, { data := #[] }, { data := #[] }, { data := #[] }, 0, 2), 0), (0, (2, 0, { data := #[97] }, { data := #[] }, { data := #[] }, 0, 0), 30), (0, (2, 3, { data := #[97] }, { data := #[] }, { data := #[] }, 0, 0), 30), (1, (2, 2, { data := #[97] }, { data := #[] }, { data := #[] }, 0, 0), 30), (0, (2, (-1), { data := #[0, 0, 0] }, { data := #[] }, { data := #[] }, 0, 0), 30), (0, (2, 1, { data := #[0, 0, 0] }, { data := #[] }, { data := #[] }, 0, 0), 31), (0, (6, 1, { data := #[] }, { data := #[] }, { data := #[] }, 0, 0), 31), (0, (2, 2, { data := #[] }, { data := #[] }, { data := #[] }, 0, 0), 32), (0, (2, 2, { data := #[0, 0, 0] }, { data := #[] }, { data := #[] }, 0, 0), 32), (0, (3, 2, { data := #[] }, { data := #[] }, { data := #[97] }, 0, 0), 32), (0, (3, 2, { data := #[97] }, { data := #[] }, { data := #[0, 0, 0] }, 0, 0), 32), (0, (4, 2, { data := #[0, 0, 0] }, { data := #[] }, { data := #[] }, 0, 0), 32), (0, (4, 2, { data := #[97] }, { data := #[] }, { data := #[0, 0, 0] }, 0, 0), 0), (0, (5, 2, { data := #[0, 0, 0] }, { data := #[] }, { data := #[] }, 0, 0), 32), (0, (5, 2, { data := #[] }, { data := #[0, 0, 0] }, { data := #[] }, 0, 0), 32), (0, (5, 2, { data := #[] }, { data := #[] }, { data := #[] }, (-1), 0), 32), (0, (5, 2, { data := #[] }, { data := #[] }, { data := #[] }, 129, 0), 32), (0, (5, 2, { data := #[] }, { data := #[] }, { data := #[] }, 128, 0), 0)]
theorem idx52 (g off m c k : Nat) (i : Int) (hi : i = (k : Int)) (h : k < m) (W : World) : (Instr.indexAt 52 (.slice (some ⟨g, off, none⟩) m c) (.int .i64 i)).run Try.prog W = .ok (.pointer (some ⟨g, off + k * 9, none⟩)) W := by
  subst hi
  have h1 : (0 : Int) ≤ (k : Int) ∧ (k : Int) < (m : Int) := by omega
  go_simp
theorem mq_refused {W : World} {B p : Nat} {own : Nat → Nat} {s : MS} (h : MQ_ W B own p s) (t tx li : Int) (ke en va : ByteArray) (kn eg : Nat) (hn : s.txns.length ≤ 100000) (hx : COk (kn, tx, ke, en, va, li, eg)) : Calls Try.prog 19 #[.pointer (some ⟨p, 0, none⟩), .int .i64 t, .agg #[.int .u8 (kn : Int), .int .i64 tx, .string ke, .string en, .string va, .int .i64 li, .int .u8 (eg : Int)]] W fun e w' => e = .returned (.int .i64 (refM s t (kn, tx, ke, en, va, li, eg))) ∧ Below W.heap.size W w' := by
  obtain ⟨S, h1, h2⟩ := h
  exact refused_any B p s S t _ W h1 hn hx
def RqOk (r : Rq) : Prop := refM ns3 r.1 r.2.1 = r.2.2 ∧ doM ns3 r.1 r.2.1 = (ns3, (r.2.2, false, { data := #[] }, [])) ∧ COk r.2.1
theorem rq_all : ∀ r ∈ rwL, RqOk r := by
  intro r hr
  unfold rwL at hr
  simp only [List.mem_cons, List.not_mem_nil, or_false] at hr
  rcases hr with rfl | rfl | rfl | rfl | rfl | rfl | rfl | rfl | rfl | rfl | rfl | rfl | rfl | rfl | rfl | rfl | rfl | rfl | rfl | rfl | rfl | rfl | rfl | rfl
  · exact ⟨rf0, rd0, cok_of (by decide) (by decide) (by decide) (by decide) (by decide) (by decide) (by decide)⟩
  · exact ⟨rf1, rd1, cok_of (by decide) (by decide) (by decide) (by decide) (by decide) (by decide) (by decide)⟩
  · exact ⟨rf2, rd2, cok_of (by decide) (by decide) (by decide) (by decide) (by decide) (by decide) (by decide)⟩
  · exact ⟨rf3, rd3, cok_of (by decide) (by decide) (by decide) (by decide) (by decide) (by decide) (by decide)⟩
  · exact ⟨rf4, rd4, cok_of (by decide) (by decide) (by decide) (by decide) (by decide) (by decide) (by decide)⟩
  · exact ⟨rf5, rd5, cok_of (by decide) (by decide) (by decide) (by decide) (by decide) (by decide) (by decide)⟩
  · exact ⟨rf6, rd6, cok_of (by decide) (by decide) (by decide) (by decide) (by decide) (by decide) (by decide)⟩
  · exact ⟨rf7, rd7, cok_of (by decide) (by decide) (by decide) (by decide) (by decide) (by decide) (by decide)⟩
  · exact ⟨rf8, rd8, cok_of (by decide) (by decide) (by decide) (by decide) (by decide) (by decide) (by decide)⟩
  · exact ⟨rf9, rd9, cok_of (by decide) (by decide) (by decide) (by decide) (by decide) (by decide) (by decide)⟩
  · exact ⟨rf10, rd10, cok_of (by decide) (by decide) (by decide) (by decide) (by decide) (by decide) (by decide)⟩
  · exact ⟨rf11, rd11, cok_of (by decide) (by decide) (by decide) (by decide) (by decide) (by decide) (by decide)⟩
  · exact ⟨rf12, rd12, cok_of (by decide) (by decide) (by decide) (by decide) (by decide) (by decide) (by decide)⟩
  · exact ⟨rf13, rd13, cok_of (by decide) (by decide) (by decide) (by decide) (by decide) (by decide) (by decide)⟩
  · exact ⟨rf14, rd14, cok_of (by decide) (by decide) (by decide) (by decide) (by decide) (by decide) (by decide)⟩
  · exact ⟨rf15, rd15, cok_of (by decide) (by decide) (by decide) (by decide) (by decide) (by decide) (by decide)⟩
  · exact ⟨rf16, rd16, cok_of (by decide) (by decide) (by decide) (by decide) (by decide) (by decide) (by decide)⟩
  · exact ⟨rf17, rd17, cok_of (by decide) (by decide) (by decide) (by decide) (by decide) (by decide) (by decide)⟩
  · exact ⟨rf18, rd18, cok_of (by decide) (by decide) (by decide) (by decide) (by decide) (by decide) (by decide)⟩
  · exact ⟨rf19, rd19, cok_of (by decide) (by decide) (by decide) (by decide) (by decide) (by decide) (by decide)⟩
  · exact ⟨rf20, rd20, cok_of (by decide) (by decide) (by decide) (by decide) (by decide) (by decide) (by decide)⟩
  · exact ⟨rf21, rd21, cok_of (by decide) (by decide) (by decide) (by decide) (by decide) (by decide) (by decide)⟩
  · exact ⟨rf22, rd22, cok_of (by decide) (by decide) (by decide) (by decide) (by decide) (by decide) (by decide)⟩
  · exact ⟨rf23, rd23, cok_of (by decide) (by decide) (by decide) (by decide) (by decide) (by decide) (by decide)⟩
theorem mk3 (W : World) : (Instr.makeSlice 50 (.int .i64 3) (.int .i64 3)).run Try.prog W = .ok (.slice (some ⟨W.heap.size, 0, none⟩) 3 3) (W.alloc (.cells #[.int .u8 0, .int .u8 0, .int .u8 0] 5)) := by
  have h : (Try.prog.info? 5).map (fun i => (i.zero, i.size, i.bytes)) = some (some (.int .u8 0), 1, 1) := by kernel_rfl
  obtain ⟨i, hi, hz, hs, hb⟩ : ∃ i, Try.prog.info? 5 = some i ∧ i.zero = some (.int .u8 0) ∧ i.size = 1 ∧ i.bytes = 1 := by
    cases hi : Try.prog.info? 5 with
    | none => rw [hi] at h; cases h
    | some i => rw [hi] at h; simp only [Option.map_some, Option.some.injEq, Prod.mk.injEq] at h; exact ⟨i, rfl, h.1, h.2.1, h.2.2⟩
  have := run_make (P := Try.prog) W 50 5 i (.int .u8 0) Try.underlying50 hi hz .i64 .i64 3 3 (by omega) (by omega) (by rw [hb]; omega) (by omega)
  rw [hs, show madeCells (Value.int .u8 0).cells (Int.toNat 3 * 1) = #[.int .u8 0, .int .u8 0, .int .u8 0] by kernel_rfl] at this
  exact this
theorem cv3 {W : World} {g : Nat} (h : Blk W g #[.int .u8 0, .int .u8 0, .int .u8 0] 5) : (convert 50 9 (.slice (some ⟨g, 0, none⟩) 3 3)).run Try.prog W = .ok (.string { data := #[0, 0, 0] }) W := by
  refine run_convert_bytes_arg W 50 5 Try.underlying50 Try.underlying5 g 0 3 3 [0, 0, 0] rfl (fun i hi => ?_) 9 Try.underlying9
  rw [h.cell]
  rcases (by omega : i = 0 ∨ i = 1 ∨ i = 2) with rfl | rfl | rfl <;> rfl
theorem info51 : ∃ ie, Try.prog.info? 51 = some ie ∧ ie.zero = some (.agg #[.int .i64 0, .int .u8 0, .int .i64 0, .string { data := #[] }, .string { data := #[] }, .string { data := #[] }, .int .i64 0, .int .u8 0, .int .i64 0]) ∧ ie.size = 9 := by
  have h : (Try.prog.info? 51).map (fun i => (i.zero, i.size)) = some (some (.agg #[.int .i64 0, .int .u8 0, .int .i64 0, .string { data := #[] }, .string { data := #[] }, .string { data := #[] }, .int .i64 0, .int .u8 0, .int .i64 0]), 9) := by kernel_rfl
  cases hi : Try.prog.info? 51 with
  | none => rw [hi] at h; cases h
  | some i => rw [hi] at h; simp only [Option.map_some, Option.some.injEq, Prod.mk.injEq] at h; exact ⟨i, rfl, h.1, h.2⟩
theorem fill24 : Instr.fill (fun i => some (i * 9, 9)) ((Array.range (24 * 9)).map ((Value.cells (.agg #[.int .i64 0, .int .u8 0, .int .i64 0, .string { data := #[] }, .string { data := #[] }, .string { data := #[] }, .int .i64 0, .int .u8 0, .int .i64 0]))[· % (Value.cells (.agg #[.int .i64 0, .int .u8 0, .int .i64 0, .string { data := #[] }, .string { data := #[] }, .string { data := #[] }, .int .i64 0, .int .u8 0, .int .i64 0])).size]!)) ((rwL.map fun r => Value.agg (rqE r).toArray).zipIdx.map fun x => (x.2, x.1)) = some (rv rqE rwL).toArray := by kernel_rfl
theorem fld1 (W : World) : (Instr.field 33 (.agg #[.int .i64 2, .bool false, .string { data := #[] }, .slice none 0 0]) 0).run Try.prog W = .ok (.int .i64 2) W := by
  unfold Instr.field asAgg
  go_simp
theorem tkMT {P : Program} {md : Region.Mode} {ops : Array Oper} {Q : Exit → Act → World → Prop} {S : World → Prop} {i : Nat} {oi : Oper} {v : Value} {fuel : Nat} {listed : Array Bool} {a : Act} {w : World}
    (hc : (Region.noSelect ops && (Region.free md ops listed i && (Region.ready md ops listed).contains i)) = true) (hi : ops[i]? = some oi) (hw : Region.wanted oi (yielded ops a.tmps) = true) (hv : ∀ w, S w → (execOp a.eval oi).run P w = .ok (.value v) w)
    (hQ : ∀ c a w, Q (.panic c) (a.put oi.dst v) w → Q (.panic c) a w) (hS : S w) (h : wpAnyH P md ops Q S fuel (listed.setIfInBounds i true) (a.put oi.dst v) w) : wpAnyH P md ops Q S (fuel + 1) listed a w := by
  simp only [Bool.and_eq_true] at hc
  exact wpAnyH_take hi hc.1 hc.2.1 hc.2.2 hQ (Or.inl ⟨hw, hv⟩) hS h
theorem puM : (∀ (a : Act) (d : Nat) (v : Value), a.put (some d) v = { a with tmps := a.tmps.setIfInBounds d v }) ∧ (∀ (a : Act) (v : Value), a.put none v = a) ∧ (∀ (l : List Value) (i : Nat) (x : Value), l.toArray.setIfInBounds i x = (l.set i x).toArray) ∧ (∀ (x y : Value) (l : List Value), (x :: l).set 0 y = y :: l) ∧ (∀ (x y : Value) (l : List Value) (i : Nat), (x :: l).set (i + 1) y = x :: l.set i y) := ⟨fun _ _ _ => rfl, fun _ _ => rfl, fun _ _ _ => by simp, fun _ _ _ => rfl, fun _ _ _ _ => rfl⟩
theorem tkM {P : Program} {md : Region.Mode} {ops : Array Oper} {Q : Exit → Act → World → Prop} {S : World → Prop} (i : Nat) {oi : Oper} (v : Value) {fuel : Nat} {listed : Array Bool} {a : Act} {w : World}
    (hi : ops.toList[i]? = some oi) (hw : Region.wanted oi (yielded ops a.tmps) = true) (hv : ∀ w, S w → (execOp a.eval oi).run P w = .ok (.value v) w)
    (hQ : ∀ c a w, Q (.panic c) (a.put oi.dst v) w → Q (.panic c) a w) (hS : S w) (hc : (Region.noSelect ops && (Region.free md ops listed i && (Region.ready md ops listed).contains i)) = true) (h : wpAnyH P md ops Q S fuel (listed.setIfInBounds i true) (a.put oi.dst v) w) : wpAnyH P md ops Q S (fuel + 1) listed a w :=
  tkMT hc (by rw [← Array.getElem?_toList]; exact hi) hw hv hQ hS h
end Go.Proofs.Ytoinjnocopejjaa
