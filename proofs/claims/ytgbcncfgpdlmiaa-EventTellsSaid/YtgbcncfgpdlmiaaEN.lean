/- The histories of the closed statement. -/
import Derived.Test.YtgbcncfgpdlmiaaNV
namespace Go.Proofs.Ytgbcncfgpdlmiaa
open Go.ChangeShapes Go.WideShapes Go.ChangeAt Go.RowKit Go.Maps
set_option linter.unusedVariables false
set_option linter.unusedSimpArgs false

open Go.Sort
/-- an event by its numbers -/
abbrev Eb := Int × Int × Int × Bool
def evb (x : Eb) : Ev := (x.1, x.2.1, x.2.2.1, 0, x.2.2.2, { data := #[] }, [])
def mkR (x : Eb) : RE := (evb x, (none, 0, 0))
def evs (L : List Eb) : Obj := .cells (rv evc (L.map mkR)).toArray 40
theorem blk_rs {α : Type} {enc : α → List Value} {k : Nat} {W : World} {g : Nat} {L : List α} {t : TypeId} (hk : ∀ x, (enc x).length = k) (h : Blk W g (rv enc L).toArray t) : RSl enc k W (some ⟨g, 0, .none⟩) L.length L :=
  ⟨rfl, fun _ => ⟨g, 0, rfl, h.lt, fun j x hx i hi => by
    have := h.cell (j * k + i)
    rw [List.getElem?_toArray, rv_at hk L j i x hx hi] at this
    rw [Nat.zero_add]
    exact this⟩⟩
theorem evs_of {W : World} {g : Nat} {L : List Eb} (h : W.heap[g]? = some (evs L)) : EvS W (some ⟨g, 0, none⟩) L.length (L.map mkR) := by
  refine ⟨?_, fun r hr => ?_⟩
  · have := blk_rs (t := 40) evc_len (show Blk W g (rv evc (L.map mkR)).toArray 40 from h)
    rwa [List.length_map] at this
  · obtain ⟨x, _, rfl⟩ := List.mem_map.1 hr
    exact PO.empty W
theorem mkR_np (L : List Eb) : ∀ r ∈ L.map mkR, r.2.2.1 ≤ 100000 := fun r hr => by
  obtain ⟨x, _, rfl⟩ := List.mem_map.1 hr
  exact Nat.zero_le _
theorem mkR_fst (L : List Eb) : (L.map mkR).map Prod.fst = L.map evb := by
  rw [List.map_map]; rfl
def chain (W : World) (os : List Obj) : World := os.foldl (fun W o => W.alloc o) W
theorem chain_grow : ∀ (os : List Obj) (W : World), chain W os = grow W os.toArray
  | [], W => by simp [chain]
  | o :: os, W => by
    show chain (W.alloc o) os = _
    rw [chain_grow os, alloc_eq_grow, grow_grow]
    congr 1
    simp
/-- what was laid, from block b on -/
def laid (b : Nat) : List Obj := [evs [(1, 0, 0, false)], evs [(2, 0, 0, false)], evs [(3, 0, 0, false)], evs [(1, 0, 1, false)], evs [(2, 0, 0, true)], evs [(1, 1, 0, false)], evs [(2, 0, 0, false)], evs [(3, 0, 0, false)], evs [(1, 0, 0, false), (1, 0, 0, false)], evs [(1, 0, 0, false), (3, 0, 0, false)], evs [(1, 0, 0, false), (2, 0, 0, false), (2, 0, 0, false)], evs [(1, 0, 1, false)], evs [(1, 0, 0, false), (2, 0, 0, false), (3, 0, 0, false), (1, 0, 0, false)], evs [(1, 0, 0, false), (2, 0, 0, false), (3, 0, 0, false), (1, 0, 1, false), (1, 0, 1, false)], evs [(1, 0, 0, false), (2, 0, 0, true)], evs [(1, 1, 0, false)], evs [(0, 0, 0, false)], evs [(4, 0, 0, false)], evs [(1, 0, 0, false), (2, 0, 0, false), (3, 0, 0, false), (3, 0, 0, false)],
  .cells #[.slice (some ⟨b + 6, 0, none⟩) 1 1, .slice (some ⟨b + 7, 0, none⟩) 1 1, .slice (some ⟨b + 8, 0, none⟩) 2 2, .slice (some ⟨b + 9, 0, none⟩) 2 2, .slice (some ⟨b + 10, 0, none⟩) 3 3, .slice (some ⟨b + 11, 0, none⟩) 1 1, .slice (some ⟨b + 12, 0, none⟩) 4 4, .slice (some ⟨b + 13, 0, none⟩) 5 5, .slice (some ⟨b + 14, 0, none⟩) 2 2, .slice (some ⟨b + 15, 0, none⟩) 1 1, .slice (some ⟨b + 16, 0, none⟩) 1 1, .slice (some ⟨b + 17, 0, none⟩) 1 1, .slice (some ⟨b + 18, 0, none⟩) 4 4] 32]
def Fa (b : Nat) (W : World) : Prop := ∀ i o, (laid b)[i]? = some o → W.heap[b + i]? = some o
theorem chain_fa (W : World) (os : List Obj) : (∀ i o, os[i]? = some o → (chain W os).heap[W.heap.size + i]? = some o) ∧ Below W.heap.size W (chain W os) := by
  rw [chain_grow]
  refine ⟨fun i o h => ?_, ⟨rfl, rfl, rfl, by rw [size_grow]; exact Nat.le_add_right _ _, fun k hk => heap_grow_old _ _ hk⟩⟩
  show (W.heap ++ os.toArray)[W.heap.size + i]? = some o
  rw [Array.getElem?_append_right (by omega), Nat.add_sub_cancel_left, List.getElem?_toArray]
  exact h
theorem fa_chain (W : World) : Fa W.heap.size (chain W (laid W.heap.size)) ∧ Below W.heap.size W (chain W (laid W.heap.size)) := chain_fa W _
theorem Fa.later {b : Nat} {W W' : World} (h : Fa b W) (hb : Below W.heap.size W W') : Fa b W' := fun i o hi => (hb.block _ (Array.getElem?_eq_some_iff.1 (h i o hi)).1).trans (h i o hi)
theorem fa_cell {b : Nat} {W : World} (h : Fa b W) (j i : Nat) {cs : Array Value} {e : TypeId} (hj : (laid b)[j]? = some (.cells cs e)) : W.cell? ⟨b + j, i, none⟩ = cs[i]? := Blk.cell (show Blk W (b + j) cs e from h j _ hj) i
theorem fa_ev {b : Nat} {W : World} (h : Fa b W) (j : Nat) {x : Eb} (hj : (laid b)[j]? = some (evs [x])) : (W.cell? ⟨b + j, 0, none⟩ = some (.int .u8 x.1) ∧ W.cell? ⟨b + j, 1, none⟩ = some (.int .i64 x.2.1) ∧ W.cell? ⟨b + j, 2, none⟩ = some (.int .i64 x.2.2.1) ∧ W.cell? ⟨b + j, 3, none⟩ = some (.int .i64 0)) ∧ W.cell? ⟨b + j, 4, none⟩ = some (.bool x.2.2.2) ∧ W.cell? ⟨b + j, 5, none⟩ = some (.string { data := #[] }) ∧ W.cell? ⟨b + j, 6, none⟩ = some (.slice none 0 0) :=
  ⟨⟨fa_cell h j 0 hj, fa_cell h j 1 hj, fa_cell h j 2 hj, fa_cell h j 3 hj⟩, fa_cell h j 4 hj, fa_cell h j 5 hj, fa_cell h j 6 hj⟩
set_option maxRecDepth 100000 in
set_option maxHeartbeats 16000000 in
theorem hist {b : Nat} {W : World} (h : Fa b W) : ∀ k, k < 13 → ∃ bk L, W.cell? ⟨b + 19, k, none⟩ = some (.slice (some ⟨bk, 0, none⟩) (List.length L) L.length) ∧ EvS W (some ⟨bk, 0, none⟩) L.length (L.map mkR) ∧ legalL 1 (L.map evb) = false ∧ L.length ≤ 5
  | 0, _ => ⟨b + 6, [(2, 0, 0, false)], fa_cell h 19 0 rfl, evs_of (h 6 _ rfl), by decide +kernel, by decide⟩
  | 1, _ => ⟨b + 7, [(3, 0, 0, false)], fa_cell h 19 1 rfl, evs_of (h 7 _ rfl), by decide +kernel, by decide⟩
  | 2, _ => ⟨b + 8, [(1, 0, 0, false), (1, 0, 0, false)], fa_cell h 19 2 rfl, evs_of (h 8 _ rfl), by decide +kernel, by decide⟩
  | 3, _ => ⟨b + 9, [(1, 0, 0, false), (3, 0, 0, false)], fa_cell h 19 3 rfl, evs_of (h 9 _ rfl), by decide +kernel, by decide⟩
  | 4, _ => ⟨b + 10, [(1, 0, 0, false), (2, 0, 0, false), (2, 0, 0, false)], fa_cell h 19 4 rfl, evs_of (h 10 _ rfl), by decide +kernel, by decide⟩
  | 5, _ => ⟨b + 11, [(1, 0, 1, false)], fa_cell h 19 5 rfl, evs_of (h 11 _ rfl), by decide +kernel, by decide⟩
  | 6, _ => ⟨b + 12, [(1, 0, 0, false), (2, 0, 0, false), (3, 0, 0, false), (1, 0, 0, false)], fa_cell h 19 6 rfl, evs_of (h 12 _ rfl), by decide +kernel, by decide⟩
  | 7, _ => ⟨b + 13, [(1, 0, 0, false), (2, 0, 0, false), (3, 0, 0, false), (1, 0, 1, false), (1, 0, 1, false)], fa_cell h 19 7 rfl, evs_of (h 13 _ rfl), by decide +kernel, by decide⟩
  | 8, _ => ⟨b + 14, [(1, 0, 0, false), (2, 0, 0, true)], fa_cell h 19 8 rfl, evs_of (h 14 _ rfl), by decide +kernel, by decide⟩
  | 9, _ => ⟨b + 15, [(1, 1, 0, false)], fa_cell h 19 9 rfl, evs_of (h 15 _ rfl), by decide +kernel, by decide⟩
  | 10, _ => ⟨b + 16, [(0, 0, 0, false)], fa_cell h 19 10 rfl, evs_of (h 16 _ rfl), by decide +kernel, by decide⟩
  | 11, _ => ⟨b + 17, [(4, 0, 0, false)], fa_cell h 19 11 rfl, evs_of (h 17 _ rfl), by decide +kernel, by decide⟩
  | 12, _ => ⟨b + 18, [(1, 0, 0, false), (2, 0, 0, false), (3, 0, 0, false), (3, 0, 0, false)], fa_cell h 19 12 rfl, evs_of (h 18 _ rfl), by decide +kernel, by decide⟩
  | n + 13, h => absurd h (by omega)
theorem idx41 (g m c k : Nat) (i : Int) (hi : i = (k : Int)) (h : k < m) (W : World) : (Instr.indexAt 41 (.slice (some ⟨g, 0, none⟩) m c) (.int .i64 i)).run Try.prog W = .ok (.pointer (some ⟨g, k, none⟩)) W := by
  subst hi
  have h1 : (0 : Int) ≤ (k : Int) ∧ (k : Int) < (m : Int) := by omega
  go_simp
theorem lg_any (tasks : Int) {W : World} {g : Nat} {L : List Eb} (b : Bool) (h : EvS W (some ⟨g, 0, none⟩) L.length (L.map mkR)) (hl : L.length ≤ 100000) (he : legalL tasks (L.map evb) = b) : Calls Try.prog 18 #[.int .i64 tasks, .slice (some ⟨g, 0, none⟩) L.length L.length] W (Bl b W) := by
  have := legal_any tasks (some ⟨g, 0, none⟩) L.length L.length (L.map mkR) W h (mkR_np L) hl
  rw [mkR_fst, he] at this
  exact this
theorem evs_new (W : World) (L : List Eb) : EvS (W.alloc (evs L)) (some ⟨W.heap.size, 0, none⟩) L.length (L.map mkR) := evs_of (Blk.new W _ 40)
end Go.Proofs.Ytgbcncfgpdlmiaa
