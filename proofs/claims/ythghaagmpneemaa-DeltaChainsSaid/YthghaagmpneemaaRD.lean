/- Texts in memory of the call's own; a value told back by deltas, one behind the other. -/
import Derived.Test.YthghaagmpneemaaRC
import Derived.OwnWalk
import Derived.Laws.AppendOwn
namespace Go.Proofs.Ythghaagmpneemaa
open Go.ChangeShapes Go.WideShapes Go.ChangeAt Go.RowKit
set_option linter.unusedVariables false
/-- texts as the memory's cells -/
def sv (ss : List ByteArray) : List Value := ss.map Value.string
theorem sv_len (ss : List ByteArray) : (sv ss).length = ss.length := by simp [sv]
theorem sv_app (ss tt : List ByteArray) : sv (ss ++ tt) = sv ss ++ sv tt := by simp [sv]
theorem sv_get (ss : List ByteArray) (j : Nat) (h : j < ss.length) : (sv ss)[j]? = some (.string (ss.getD j ⟨#[]⟩)) := by
  simp [sv, List.getD_eq_getElem?_getD, h]
/-- a row of texts of the call's own reads as texts -/
theorem own_strs {w : World} {B n : Nat} {v : Value} {ss : List ByteArray} (h : w.ownsRow B 9 1 v n (sv ss)) :
    ∃ A c, v = .slice A n c ∧ Strs w.heap.size w A n ss ∧ ss.length = n := by
  have hl : ss.length = n := by have := h.1; rw [sv_len] at this; omega
  rcases h.2 with ⟨rfl, rfl⟩ | ⟨g, cap, cur, rfl, hg, hb, hc⟩
  · exact ⟨none, 0, rfl, ⟨hl, fun h => by omega⟩, hl⟩
  · refine ⟨some ⟨g, 0, none⟩, cap, rfl, ⟨hl, fun hn => ⟨g, 0, rfl, (Array.getElem?_eq_some_iff.1 hb).1, fun j hj => ?_⟩⟩, hl⟩
    rw [Nat.zero_add, World.ownsRow.cellAt h j (by omega)]
    exact sv_get ss j (by omega)
theorem backR_snoc : ∀ (ds : List ByteArray) (v x y d : ByteArray), backR v ds = (x, 0) → apR x d = (y, 0) → backR v (ds ++ [d]) = (y, 0)
  | [], v, x, y, d, h, h2 => by
    have : v = x := by have := congrArg Prod.fst h; exact this
    subst this
    show (if (apR v d).2 = 0 then backR (apR v d).1 [] else (⟨#[]⟩, (apR v d).2)) = _
    rw [h2]; rfl
  | e :: ds, v, x, y, d, h, h2 => by
    have h' : (if (apR v e).2 = 0 then backR (apR v e).1 ds else (⟨#[]⟩, (apR v e).2)) = (x, 0) := h
    show (if (apR v e).2 = 0 then backR (apR v e).1 (ds ++ [d]) else (⟨#[]⟩, (apR v e).2)) = _
    by_cases h0 : (apR v e).2 = 0
    · rw [if_pos h0] at h' ⊢
      exact backR_snoc ds _ x y d h' h2
    · rw [if_neg h0] at h'
      exact absurd (congrArg Prod.snd h') h0
theorem ap_make (a b : ByteArray) (ha : a.size ≤ 256) (hb : b.size ≤ 256) : apR a (makeR a b).1 = (b, 0) := by
  have e : (makeR a b).1 = str (mk (bl a) (bl b)) := by unfold makeR; rw [if_pos ⟨ha, hb⟩]
  rw [e]
  unfold apR
  rw [if_pos ha, bl_str, if_pos (apB_mk _ _ (by rw [bl_len]; exact ha) (by rw [bl_len]; exact hb)), ap_mk _ _ (by rw [bl_len]; omega)]
  rfl
theorem make_ok (a b : ByteArray) (ha : a.size ≤ 256) (hb : b.size ≤ 256) : (makeR a b).2 = 0 := by
  unfold makeR; rw [if_pos ⟨ha, hb⟩]
/-- the values that are not too long -/
def fits (ss : List ByteArray) : List ByteArray := ss.filter fun s => decide (s.size ≤ 256)
theorem fits_snoc (ss : List ByteArray) (s : ByteArray) : fits (ss ++ [s]) = fits ss ++ (if s.size ≤ 256 then [s] else []) := by
  unfold fits
  rw [List.filter_append]
  by_cases h : s.size ≤ 256 <;> simp [h]
theorem fits_take (ss : List ByteArray) (k : Nat) (h : k < ss.length) : fits (ss.take (k + 1)) = fits (ss.take k) ++ (if (ss.getD k ⟨#[]⟩).size ≤ 256 then [ss.getD k ⟨#[]⟩] else []) := by
  rw [List.take_succ_eq_append_getElem h, fits_snoc, List.getD_eq_getElem?_getD, List.getElem?_eq_getElem h]; rfl
theorem fits_len (ss : List ByteArray) (k : Nat) : (fits (ss.take k)).length ≤ k := by
  have := List.length_filter_le (fun s : ByteArray => decide (s.size ≤ 256)) (ss.take k)
  have h2 := List.length_take_le k ss
  unfold fits; omega
theorem fits_ok (ss : List ByteArray) (s : ByteArray) (h : s ∈ fits ss) : s.size ≤ 256 := by
  have := (List.mem_filter.1 h).2; simpa using this
theorem s9info : (Try.prog.info? 9).map (fun i => (i.zero, i.size, i.bytes)) = some (some (.string ⟨#[]⟩), 1, 16) := by kernel_rfl
theorem one_cell (w : World) (o : Value) (T : TypeId) : ∀ j u, ([o] : List Value)[j]? = some u → (w.alloc (.cells #[o] T)).cell? ((⟨w.heap.size, 0, none⟩ : Addr).add j) = some u := fun j u h => by
  cases j with
  | zero =>
    simp only [List.getElem?_cons_zero] at h
    show (w.alloc (.cells #[o] T)).cell? ⟨w.heap.size, 0, none⟩ = some u
    rw [cell_new]; exact h
  | succ j => simp at h
theorem keepc {a b : World} {p : Addr} {v : Value} (k : Below a.heap.size a b) (h : a.cell? p = some v) : b.cell? p = some v := (k.cell (block_lt_of_cell h)).trans h
theorem index_run (g off m c k : Nat) (i : Int) (hi : i = (k : Int)) (h : k < m) (W : World) : (Instr.indexAt 27 (.slice (some ⟨g, off, none⟩) m c) (.int .i64 i)).run Try.prog W = .ok (.pointer (some ⟨g, off + k, none⟩)) W := by
  subst hi
  have h1 : (0 : Int) ≤ (k : Int) ∧ (k : Int) < (m : Int) := by omega
  go_simp
end Go.Proofs.Ythghaagmpneemaa
