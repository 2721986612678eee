/- Compact at places. -/
import Derived.Test.YtgbcncfgpdlmiaaTT
import Derived.Deep.QuietTactic
import Derived.BigQuiet
import Derived.Lib.SliceRun
namespace Go.Proofs.Ytgbcncfgpdlmiaa
open Go.ChangeShapes Go.WideShapes Go.ChangeAt Go.RowKit Go.Maps
set_option linter.unusedVariables false
set_option linter.unusedSimpArgs false

/-- places in a block of the call's own -/
structure PH (W : World) (g off : Nat) (L : List Pl) : Prop where
  lt : g < W.heap.size
  at' : ∀ j p, L[j]? = some p → (W.cell? ⟨g, off + j * 2, none⟩ = some (.int .i64 p.1) ∧ W.cell? ⟨g, off + j * 2 + 1, none⟩ = some (.int .i64 p.2)) ∧ (W.frozen? ⟨g, off + j * 2, none⟩ = false ∧ W.frozen? ⟨g, off + j * 2 + 1, none⟩ = false)
theorem PH.rsl {W : World} {g off : Nat} {L : List Pl} (h : PH W g off L) : RSl plc 2 W (some ⟨g, off, none⟩) L.length L :=
  ⟨rfl, fun _ => ⟨g, off, rfl, h.lt, fun j x hx i hi => by
    obtain ⟨⟨h0, h1⟩, _⟩ := h.at' j x hx
    match i, hi with
    | 0, _ => exact h0
    | 1, _ => exact h1⟩⟩
theorem PH.take {W : World} {g off : Nat} {L : List Pl} (h : PH W g off L) (k : Nat) : PH W g off (L.take k) := ⟨h.lt, fun j p hp => by
  refine h.at' j p ?_
  by_cases hj : j < k
  · rwa [List.getElem?_take_of_lt hj] at hp
  · rw [List.getElem?_eq_none (by rw [List.length_take]; omega)] at hp; cases hp⟩
theorem PH.drewN {W : World} {g off : Nat} {L : List Pl} (h : PH W g off L) (n : Nat) : PH (W.drewN n) g off L := ⟨h.lt, h.at'⟩
theorem cs_other {W : World} {g o1 o2 : Nat} {v : Value} (h : o1 ≠ o2) : (W.setCell ⟨g, o1, none⟩ v).cell? ⟨g, o2, none⟩ = W.cell? ⟨g, o2, none⟩ := by
  apply World.cell?_setCell_other
  intro e
  injection e
  contradiction
theorem cs_same {W : World} {g o : Nat} {u v : Value} (h : W.cell? ⟨g, o, none⟩ = some u) : (W.setCell ⟨g, o, none⟩ v).cell? ⟨g, o, none⟩ = some v := by
  apply World.cell?_setCell_same
  exact h
theorem PH.set {W : World} {g off : Nat} {L : List Pl} (h : PH W g off L) (k : Nat) (q : Pl) (hk : k < L.length) : PH ((W.setCell ⟨g, off + k * 2, none⟩ (.int .i64 q.1)).setCell ⟨g, off + k * 2 + 1, none⟩ (.int .i64 q.2)) g off (L.set k q) := by
  refine ⟨by simpa using h.lt, fun j p hp => ?_⟩
  rw [World.frozen?_setCell, World.frozen?_setCell, World.frozen?_setCell, World.frozen?_setCell]
  have hj : j < L.length := by
    have := (List.getElem?_eq_some_iff.1 hp).1
    rwa [List.length_set] at this
  obtain ⟨⟨c0, c1⟩, f⟩ := h.at' j _ (List.getElem?_eq_getElem hj)
  refine ⟨?_, f⟩
  by_cases e : k = j
  · subst e
    rw [List.getElem?_set_self hk] at hp
    obtain rfl := Option.some.inj hp
    refine ⟨?_, ?_⟩
    · exact (cs_other (by omega)).trans (cs_same c0)
    · exact cs_same (u := .int .i64 (L[k]'hj).2) ((cs_other (by omega)).trans c1)
  · rw [List.getElem?_set_ne e, List.getElem?_eq_getElem hj] at hp
    obtain rfl := Option.some.inj hp
    refine ⟨?_, ?_⟩
    · exact (cs_other (by omega)).trans ((cs_other (by omega)).trans c0)
    · exact (cs_other (by omega)).trans ((cs_other (by omega)).trans c1)
theorem grown_setCells (b : Nat) : ∀ (vs : List Value) (o : Nat) (w : World), w.grownBy (w.setCells b o vs) (some b)
  | [], _, w => World.grownBy.refl _ _
  | v :: r, o, w => grown_trans (grown_set w b o v) (grown_setCells b r (o + 1) _)
theorem PH.zero {W : World} {g off : Nat} {L : List Pl} (h : PH W g off L) (k : Nat) (vs : List Value) (hk : ∀ j, j < L.length → j < k) : PH (W.setCells g (off + k * 2) vs) g off L := by
  refine ⟨Nat.lt_of_lt_of_le h.lt (grown_setCells g vs _ W).size, fun j p hp => ?_⟩
  have hj := hk j (List.getElem?_eq_some_iff.1 hp).1
  rw [World.frozen?_setCells, World.frozen?_setCells, World.cell?_setCells_out g vs _ W _ (fun _ _ => .inl (by simp; omega)), World.cell?_setCells_out g vs _ W _ (fun _ _ => .inl (by simp; omega))]
  exact h.at' j p hp
theorem grown_drewN {w W : World} {r : Option Nat} (h : w.grownBy W r) (n : Nat) : w.grownBy (W.drewN n) r := grown_trans h ⟨rfl, rfl, rfl, Nat.le_refl _, fun _ _ _ => rfl⟩
theorem eq45 (p q : Pl) (w : World) : (binOp BinOp.eql 45 (.agg #[.int .i64 p.1, .int .i64 p.2]) (.agg #[.int .i64 q.1, .int .i64 q.2])).run Try.prog w = .ok (.bool (decide (p = q))) w := by
  obtain ⟨a, b⟩ := p
  obtain ⟨c, d⟩ := q
  go_simp
  by_cases h1 : a = c <;> by_cases h2 : b = d <;> simp [h1, h2]
theorem ne45 (p q : Pl) (w : World) : (binOp BinOp.neq 45 (.agg #[.int .i64 p.1, .int .i64 p.2]) (.agg #[.int .i64 q.1, .int .i64 q.2])).run Try.prog w = .ok (.bool (!decide (p = q))) w := by
  obtain ⟨a, b⟩ := p
  obtain ⟨c, d⟩ := q
  go_simp
  by_cases h1 : a = c <;> by_cases h2 : b = d <;> simp [h1, h2]
theorem slice46_lo (g off n c k : Nat) (hk : k < n) (hc : n ≤ c) (W : World) : (Instr.slice 46 (.slice (some ⟨g, off, none⟩) n c) (some (.int .i64 (k : Int))) .none .none).run Try.prog W = .ok (.slice (some ⟨g, off + k * 2, none⟩) (n - k) (c - k)) W := by
  have ht' : Try.prog.underlying 46 = some (.slice (Try.prog.elem 46)) := by simp [Program.elem, Try.underlying46]
  have he : Try.prog.elem 46 = 45 := by simp [Program.elem, Try.underlying46]
  rw [run_slice_l W 46 _ _ _ ht' .i64 _ (by omega) (by omega), he, sizeOf45]
  have e : ¬ c = k := by omega
  simp [Result.andThen, sliced, e, add_plain]
theorem slice46_hi (g off n c k : Nat) (hk : k ≤ n) (hc : n ≤ c) (hn : 0 < n) (W : World) : (Instr.slice 46 (.slice (some ⟨g, off, none⟩) n c) .none (some (.int .i64 (k : Int))) .none).run Try.prog W = .ok (.slice (some ⟨g, off, none⟩) k c) W := by
  have ht' : Try.prog.underlying 46 = some (.slice (Try.prog.elem 46)) := by simp [Program.elem, Try.underlying46]
  have he : Try.prog.elem 46 = 45 := by simp [Program.elem, Try.underlying46]
  rw [run_slice_h W 46 _ _ _ ht' .i64 _ (by omega) (by omega), he, sizeOf45]
  have e : ¬ c = 0 := by omega
  simp [Result.andThen, sliced, Addr.add, e]
theorem zero45 (w : World) : (zeroValue 45).run Try.prog w = .ok (.agg #[.int .i64 0, .int .i64 0]) w := by kernel_rfl
theorem run_clear46 (w : World) (ty : TypeId) (b o n c : Nat) (hn : 0 < n) (hc : ∀ j, j < n * 2 → (w.cell? ⟨b, o + j, none⟩).isSome = true) (hf : ∀ j, j < n * 2 → w.frozen? ⟨b, o + j, none⟩ = false) :
    (Builtin.clear_ #[46] ty #[.slice (some ⟨b, o, none⟩) n c]).run Try.prog w = .ok (.tuple #[]) (w.setCells b o (List.replicate (n * 2) (.int .i64 0))) := by
  have hzc : (Builtin.zeroCells (Value.agg #[.int .i64 0, .int .i64 0]).cells n).toList = List.replicate (n * 2) (.int .i64 0) := by
    show (Builtin.zeroCells #[.int .i64 0, .int .i64 0] n).toList = _
    simp only [Builtin.zeroCells]
    apply List.ext_getElem
    · simp
    · intro i h1 h2
      have h3 : i % 2 = 0 ∨ i % 2 = 1 := by omega
      rcases h3 with h3 | h3 <;> simp [h3]
  have hst := run_storeCells_cells (P := Try.prog) b o (List.replicate (n * 2) (.int .i64 0)) 0 w (by simpa using hc) (by simpa using hf) (by intro v hv'; rw [List.eq_of_mem_replicate hv']; rfl)
  simp only [Nat.add_zero] at hst
  obtain ⟨m, rfl⟩ : ∃ m, n = m + 1 := ⟨n - 1, by omega⟩
  simp [Builtin.clear_, run_underlying Try.underlying46, zero45, hzc, hst]
/-- consecutive equals once, of the first k -/
def dd (D : List Pl) : Nat → List Pl
  | 0 => []
  | j + 1 => match D[j]? with
    | some p => if 0 < j ∧ D[j - 1]? = some p then dd D j else dd D j ++ [p]
    | none => dd D j
theorem dd_len (D : List Pl) : ∀ k, (dd D k).length ≤ k
  | 0 => Nat.le_refl _
  | j + 1 => by
    have := dd_len D j
    unfold dd
    split
    · split
      · omega
      · simp; omega
    · omega
theorem dd_same {D : List Pl} {j : Nat} {p : Pl} (h : D[j + 1]? = some p) (h2 : D[j]? = some p) : dd D (j + 2) = dd D (j + 1) := by
  show (match D[j + 1]? with | some p => if 0 < j + 1 ∧ D[j + 1 - 1]? = some p then dd D (j + 1) else dd D (j + 1) ++ [p] | none => dd D (j + 1)) = _
  rw [h]
  simp [h2]
theorem dd_new {D : List Pl} {j : Nat} {p q : Pl} (h : D[j + 1]? = some p) (h2 : D[j]? = some q) (hne : ¬ p = q) : dd D (j + 2) = dd D (j + 1) ++ [p] := by
  show (match D[j + 1]? with | some p => if 0 < j + 1 ∧ D[j + 1 - 1]? = some p then dd D (j + 1) else dd D (j + 1) ++ [p] | none => dd D (j + 1)) = _
  rw [h]
  have : ¬ q = p := fun e => hne e.symm
  simp [h2, this]
theorem dd_one {D : List Pl} {p : Pl} (h : D[0]? = some p) : dd D 1 = [p] := by
  show (match D[0]? with | some p => if 0 < 0 ∧ D[0 - 1]? = some p then dd D 0 else dd D 0 ++ [p] | none => dd D 0) = _
  rw [h]; rfl
theorem dd_mem {D : List Pl} {x : Pl} : ∀ {k : Nat}, x ∈ dd D k ↔ x ∈ D.take k
  | 0 => by simp [dd]
  | j + 1 => by
    have ih := @dd_mem D x j
    rw [List.take_add_one]
    unfold dd
    cases h : D[j]? with
    | none => simp [ih]
    | some p =>
      simp only [Option.toList_some, List.mem_append, List.mem_singleton]
      split
      · rename_i hc
        rw [ih]
        refine ⟨.inl, fun hx => ?_⟩
        rcases hx with hx | rfl
        · exact hx
        · exact List.mem_of_getElem? (i := j - 1) (by rw [List.getElem?_take_of_lt (by omega)]; exact hc.2)
      · rw [List.mem_append, List.mem_singleton, ih]
/-- rising places -/
def Ris (P : List Pl) : Prop := P.Pairwise (fun x y => cmpP x y < 0)
theorem dd_ris {D : List Pl} (hs : D.Pairwise (fun x y => ¬ cmpP y x < 0)) : ∀ k, Ris (dd D k)
  | 0 => List.Pairwise.nil
  | j + 1 => by
    have ih := dd_ris hs j
    unfold dd
    cases h : D[j]? with
    | none => exact ih
    | some p =>
      simp only
      split
      · exact ih
      · rename_i hc
        refine List.pairwise_append.2 ⟨ih, List.pairwise_singleton _ _, fun x hx y hy => ?_⟩
        obtain rfl := List.mem_singleton.1 hy
        obtain ⟨i, hi, e⟩ := List.getElem_of_mem (dd_mem.1 hx)
        rw [List.length_take] at hi
        rw [List.getElem_take] at e
        have hj := (List.getElem?_eq_some_iff.1 h)
        obtain ⟨hj1, hj2⟩ := hj
        have hp := List.pairwise_iff_getElem.1 hs
        have h1 := hp i j (by omega) hj1 (by omega)
        rw [e, hj2] at h1
        rw [cmpP_lt] at h1 ⊢
        by_cases hx : x = y
        · subst hx
          have h0 : D[j - 1]? = some x := by
            have h3 : D[j - 1]? = some (D[j - 1]'(by omega)) := List.getElem?_eq_getElem (by omega)
            rw [h3]
            have h4 := hp (j - 1) j (by omega) hj1 (by omega)
            rw [hj2, cmpP_lt] at h4
            by_cases hi2 : i = j - 1
            · subst hi2; rw [e]
            · have h5 := hp i (j - 1) (by omega) (by omega) (by omega)
              rw [e, cmpP_lt] at h5
              have h6 : D[j - 1]'(by omega) = x := Prod.ext (by omega) (by omega)
              rw [h6]
          exact absurd ⟨by omega, h0⟩ hc
        · have : x.1 ≠ y.1 ∨ x.2 ≠ y.2 := by
            by_cases h7 : x.1 = y.1
            · exact .inr (fun h8 => hx (Prod.ext h7 h8))
            · exact .inl h7
          omega
theorem ris_srt : ∀ {P : List Pl}, Ris P → Srt P
  | [], _ => fun t j p h => by cases h
  | x :: P, h => fun t j p hp => by
    have h1 := List.pairwise_cons.1 h
    have ih := ris_srt h1.2 t
    have hc : cLt (x :: P) t = (if cmpP x t < 0 then 1 else 0) + cLt P t := by
      unfold cLt
      by_cases hx : cmpP x t < 0
      · simp [hx]; omega
      · simp [hx]
    by_cases hx : cmpP x t < 0
    · rw [hc, if_pos hx]
      cases j with
      | zero =>
        obtain rfl := Option.some.inj hp
        exact ⟨fun _ => by omega, fun _ => hx⟩
      | succ j =>
        have := ih j p hp
        rw [this]
        omega
    · have hz : cLt P t = 0 := by
        unfold cLt
        rw [List.length_eq_zero_iff, List.filter_eq_nil_iff]
        intro y hy
        have h2 := h1.1 y hy
        rw [cmpP_lt] at h2 hx
        rw [decide_eq_true_eq, cmpP_lt]
        omega
      rw [hc, if_neg hx, hz]
      have : ¬ cmpP p t < 0 := by
        cases j with
        | zero =>
          obtain rfl := Option.some.inj hp
          exact hx
        | succ j =>
          have h2 := h1.1 p (List.mem_of_getElem? (show P[j]? = some p from hp))
          rw [cmpP_lt] at h2 hx ⊢
          omega
      exact ⟨fun h => absurd h this, fun h => by omega⟩
def CpcEnd (g off c : Nat) (D : List Pl) (w : World) (e : Ending) (w' : World) : Prop := e = .returned (.slice (some ⟨g, off, none⟩) (dd D D.length).length c) ∧ PH w' g off (dd D D.length) ∧ w.grownBy w' (some g)
theorem drop_nil_take {C D : List Pl} {k : Nat} (h : C.take k = dd D D.length) (hk : k ≤ C.length) (hl : (dd D D.length).length = k) : C.take k = dd D D.length := h
set_option maxRecDepth 100000 in
set_option maxHeartbeats 8000000 in
theorem compact_any (g off c : Nat) (D : List Pl) (w : World) (h : PH w g off D) (hc : D.length ≤ c) (hn : D.length ≤ 100000) (h1 : 0 < D.length) : Calls Try.prog 43 #[.slice (some ⟨g, off, none⟩) D.length c] w (CpcEnd g off c D w) := by
  obtain ⟨n, hnn⟩ : ∃ n, D.length = n := ⟨_, rfl⟩
  have HL := Lib.hid hnn
  rw [hnn] at hc hn h1
  rw [hnn]
  have HP := Lib.hid h
  clear h hnn
  rcases Nat.lt_or_ge n 2 with h2 | h2
  · have d1 : decide ((n : Int) < 2) = true := decide_eq_true (by omega)
    obtain rfl : n = 1 := by omega
    have hd : dd D D.length = D := by
      match D, HL.out with
      | [x], _ => rfl
    have HD := Lib.hid hd
    clear hd
    go_enter Try.func43, Try.ntmps43
    go_wp2
    go_ret
    unfold CpcEnd
    rw [HD.out, HL.out]
    exact ⟨rfl, HP.out, World.grownBy.refl _ _⟩
  have d0 : decide ((n : Int) < 2) = false := decide_eq_false (by omega)
  go_enter Try.func43, Try.ntmps43
  go_wp2
  go_loopw [3] (fun i W => ∃ k : Nat, 1 ≤ k ∧ k ≤ n ∧ i = .int .i64 k ∧ PH W g off D ∧ dd D k = D.take k ∧ w.grownBy W (some g)) (fun i _ => n - (intOf i).toNat)
  case atStart =>
    refine ⟨1, Nat.le_refl _, by omega, rfl, HP.out, ?_, World.grownBy.refl _ _⟩
    have h0 : D[0]? = some (D[0]'(by have := HL.out; omega)) := List.getElem?_eq_getElem _
    rw [dd_one h0, List.take_add_one, h0]; rfl
  case round =>
    obtain ⟨k, hk1, hk, rfl, hph, hdk, hgr⟩ := hrel
    have HPH := Lib.hid hph
    have HDK := Lib.hid hdk
    have HGR := Lib.hid hgr
    clear hph hdk hgr HP
    by_cases hlt : k < n
    · have d1 : decide ((k : Int) < (n : Int)) = true := decide_eq_true (by omega)
      have wk : IntKind.i64.wrap ((k : Int) + 1) = (k : Int) + 1 := IntWalk.i64_in _ (by omega)
      obtain ⟨j, rfl⟩ : ∃ j, k = j + 1 := ⟨k - 1, by omega⟩
      have wj : IntKind.i64.wrap (((j + 1 : Nat) : Int) - 1) = (j : Int) := (IntWalk.i64_in _ (by omega)).trans (by omega)
      have i5 := idx46 g off n c (j + 1) ((j + 1 : Nat) : Int) rfl hlt
      have i6 := idx46 g off n c j (j : Int) rfl (by omega)
      have hp : D[j + 1]? = some (D[j + 1]'(by rw [HL.out]; exact hlt)) := List.getElem?_eq_getElem _
      have hq : D[j]? = some (D[j]'(by rw [HL.out]; omega)) := List.getElem?_eq_getElem _
      generalize D[j + 1]'(by rw [HL.out]; exact hlt) = p at hp
      generalize D[j]'(by rw [HL.out]; omega) = q at hq
      obtain ⟨⟨x0, x1⟩, _⟩ := HPH.out.at' _ _ hp
      obtain ⟨⟨y0, y1⟩, _⟩ := HPH.out.at' _ _ hq
      have HPQ := Lib.hid hp
      have HQQ := Lib.hid hq
      have he := eq45 p q
      clear hp hq
      by_cases hpq : p = q
      · have HDS := Lib.hid (dd_same HPQ.out (hpq ▸ HQQ.out))
        rw [decide_eq_true hpq] at he
        have l1 := slice46_lo g off n c (j + 1) hlt hc
        go_wp2
        go_quiet (fail)
        go_wp2
        clear i5 i6 x0 x1 y0 y1 he wj l1
        go_loopw [3, 5] (fun i3 i5 W => ∃ (k u : Nat) (C : List Pl), i3 = .int .i64 k ∧ i5 = .int .i64 u ∧ 1 ≤ u ∧ u ≤ n - (j + 1) ∧ j + 1 ≤ k ∧ k + 1 ≤ j + 1 + u ∧ C.length = n ∧ PH W g off C ∧ C.take k = dd D (j + 1 + u) ∧ (∀ i, j + u ≤ i → C[i]? = D[i]?) ∧ w.grownBy W (some g)) (fun _ i5 _ => n - (intOf i5).toNat)
        case atStart => exact ⟨j + 1, 1, D, by go_num, rfl, Nat.le_refl _, by omega, Nat.le_refl _, by omega, HL.out, HPH.out.drewN _, by rw [← HDK.out]; exact HDS.out.symm, fun _ _ => rfl, grown_drewN HGR.out _⟩
        case round =>
          obtain ⟨k, u, C, rfl, rfl, hu1, hu, hk3, hk4, hcl, hph, htk, hbe, hgr⟩ := hrel
          have HPC := Lib.hid hph
          have HTK := Lib.hid htk
          have HBE := Lib.hid hbe
          have HG2 := Lib.hid hgr
          have HCL := Lib.hid hcl
          clear hph htk hbe hgr hcl HPH HDK HGR HDS HPQ HQQ hpq
          by_cases hlu : u < n - (j + 1)
          · have d3 : decide ((u : Int) < ((n - (j + 1) : Nat) : Int)) = true := decide_eq_true (by omega)
            obtain ⟨v, rfl⟩ : ∃ v, u = v + 1 := ⟨u - 1, by omega⟩
            have wu : IntKind.i64.wrap (((v + 1 : Nat) : Int) + 1) = ((v + 1 : Nat) : Int) + 1 := IntWalk.i64_in _ (by omega)
            have wv : IntKind.i64.wrap (((v + 1 : Nat) : Int) - 1) = (v : Int) := (IntWalk.i64_in _ (by omega)).trans (by omega)
            have wk2 : IntKind.i64.wrap ((k : Int) + 1) = (k : Int) + 1 := IntWalk.i64_in _ (by omega)
            have i7 := idx46 g (off + (j + 1) * 2) (n - (j + 1)) (c - (j + 1)) (v + 1) ((v + 1 : Nat) : Int) rfl hlu
            have i8 := idx46 g (off + (j + 1) * 2) (n - (j + 1)) (c - (j + 1)) v (v : Int) rfl (by omega)
            have i9 := idx46 g off n c k (k : Int) rfl (by omega)
            have hp : D[j + 1 + v + 1]? = some (D[j + 1 + v + 1]'(by rw [HL.out]; omega)) := List.getElem?_eq_getElem _
            have hq : D[j + 1 + v]? = some (D[j + 1 + v]'(by rw [HL.out]; omega)) := List.getElem?_eq_getElem _
            generalize D[j + 1 + v + 1]'(by rw [HL.out]; omega) = p at hp
            generalize D[j + 1 + v]'(by rw [HL.out]; omega) = q at hq
            obtain ⟨⟨x0, x1⟩, _⟩ := HPC.out.at' (j + 1 + v + 1) p ((HBE.out _ (by omega)).trans hp)
            obtain ⟨⟨y0, y1⟩, _⟩ := HPC.out.at' (j + 1 + v) q ((HBE.out _ (by omega)).trans hq)
            rw [show off + (j + 1 + v + 1) * 2 = off + (j + 1) * 2 + (v + 1) * 2 by omega] at x0 x1
            rw [show off + (j + 1 + v) * 2 = off + (j + 1) * 2 + v * 2 by omega] at y0 y1
            have HPQ := Lib.hid hp
            have HQQ := Lib.hid hq
            have he := ne45 p q
            have HKL : Hid (k < C.length) := by show _ < _; rw [HCL.out]; omega
            have hz : C[k]? = some (C[k]'HKL.out) := List.getElem?_eq_getElem _
            obtain ⟨⟨z0, z1⟩, f0, f1⟩ := HPC.out.at' k _ hz
            generalize C[k]'HKL.out = zz at z0 z1
            clear hp hq hz
            by_cases hpq : p = q
            · have HDS := Lib.hid (dd_same HPQ.out (hpq ▸ HQQ.out))
              rw [decide_eq_true hpq] at he
              go_wp2
              go_quiet (fail)
              go_wp2
              go_roundw
              case rel =>
                exact ⟨k, v + 2, C, rfl, by go_num, by omega, by omega, hk3, by omega, HCL.out, HPC.out.drewN _, by rw [HTK.out]; exact HDS.out.symm, fun i hi => HBE.out i (by omega), grown_drewN HG2.out _⟩
              case measure => simp [intOf]; omega
            · have HDS := Lib.hid (dd_new HPQ.out HQQ.out hpq)
              rw [decide_eq_false hpq] at he
              go_wp2
              go_quiet (fail)
              go_wp2
              go_roundw
              case rel =>
                refine ⟨k + 1, v + 2, C.set k p, by go_num, by go_num, by omega, by omega, by omega, by omega, by rw [List.length_set]; exact HCL.out, (HPC.out.drewN _).set k p HKL.out, ?_, fun i hi => ?_, grown_trans (grown_trans (grown_drewN HG2.out _) (grown_set _ _ _ _)) (grown_set _ _ _ _)⟩
                · rw [List.take_add_one, List.getElem?_set_self HKL.out, List.take_set_of_le (Nat.le_refl _), HTK.out]; exact HDS.out.symm
                · rw [List.getElem?_set_ne (by omega)]; exact HBE.out i (by omega)
              case measure => simp [intOf]; omega
          · have d3 : decide ((u : Int) < ((n - (j + 1) : Nat) : Int)) = false := decide_eq_false (by omega)
            obtain rfl : u = n - (j + 1) := by omega
            have hkn : k < n := by omega
            have l2 := slice46_lo g off n c k hkn hc
            have l3 := slice46_hi g off n c k (by omega) hc (by omega)
            have HDD : Hid (dd D n = C.take k) := by show _ = _; rw [HTK.out]; congr 1; omega
            have hcell : ∀ jj, jj < (n - k) * 2 → (wr.cell? ⟨g, off + k * 2 + jj, none⟩).isSome = true ∧ wr.frozen? ⟨g, off + k * 2 + jj, none⟩ = false := fun jj hj => by
              have h3 := HPC.out.at' (k + jj / 2) _ (List.getElem?_eq_getElem (by rw [HCL.out]; omega))
              have h4 : jj % 2 = 0 ∨ jj % 2 = 1 := by omega
              rcases h4 with h4 | h4
              · have e : off + k * 2 + jj = off + (k + jj / 2) * 2 := by omega
                rw [e, h3.1.1]; exact ⟨rfl, h3.2.1⟩
              · have e : off + k * 2 + jj = off + (k + jj / 2) * 2 + 1 := by omega
                rw [e, h3.1.2]; exact ⟨rfl, h3.2.2⟩
            have hclr := fun ty => run_clear46 wr ty g (off + k * 2) (n - k) (c - k) (by omega) (fun jj hj => (hcell jj hj).1) (fun jj hj => (hcell jj hj).2)
            clear hcell
            have HKN : Hid (k ≤ C.length) := by show _ ≤ _; rw [HCL.out]; omega
            go_wp2
            go_ret
            unfold CpcEnd
            rw [HL.out, HDD.out]
            refine ⟨by rw [List.length_take, Nat.min_eq_left HKN.out]; rfl, (HPC.out.take k).zero k _ (fun jj hj => by rw [List.length_take] at hj; omega), grown_trans HG2.out (grown_setCells _ _ _ _)⟩
      · have HDS := Lib.hid (dd_new HPQ.out HQQ.out hpq)
        rw [decide_eq_false hpq] at he
        go_wp2
        go_quiet (fail)
        go_wp2
        go_roundw
        case rel =>
          refine ⟨j + 2, by omega, by omega, by go_num, HPH.out.drewN _, ?_, grown_drewN HGR.out _⟩
          rw [HDS.out, HDK.out, List.take_add_one (i := j + 1), HPQ.out]; rfl
        case measure => simp [intOf]; omega
    · obtain rfl : k = n := by omega
      have d1 : decide ((k : Int) < (k : Int)) = false := decide_eq_false (by omega)
      have hd : dd D D.length = D := by rw [HL.out, HDK.out, List.take_of_length_le (by rw [HL.out]; exact Nat.le_refl _)]
      have HD := Lib.hid hd
      clear hd
      go_wp2
      go_ret
      unfold CpcEnd
      rw [HD.out, HL.out]
      exact ⟨rfl, HPH.out, HGR.out⟩
end Go.Proofs.Ytgbcncfgpdlmiaa
