/- run where the length may not be; either way. -/
import Derived.Test.YtjkohdenmiljpaaW
import Derived.Test.YtjkohdenmiljpaaO
namespace Go.Proofs.Ytjkohdenmiljpaa
open Go.ChangeShapes Go.WideShapes Go.ChangeAt Go.RowKit Go.Maps
set_option linter.unusedVariables false
set_option linter.unusedSimpArgs false

set_option maxRecDepth 100000 in
set_option maxHeartbeats 4000000 in
theorem run_no (x : Int) (A : Option Addr) (n c : Nat) (w : World) (hx : x < 2 ∨ 4096 < x) : Calls Try.prog 28 #[.int .i64 x, .slice A n c] w fun e w' => e = .returned (.tuple #[.pointer none, .slice none 0 0, .bool false]) ∧ w = w' := by
  have HX := Lib.hid hx
  clear hx
  go_enter Try.func28, Try.ntmps28
  go_wp2_with fail
  refine (new_no x w HX.out).mono ?_
  rintro e w1 ⟨rfl, rfl⟩
  go_wp2
  go_ret3
  exact ⟨rfl, rfl⟩
/-- what run makes of a length that may be -/
def RunIs (w : World) (s : Nat) (e : Ending) (w' : World) : Prop :=
  ∃ (p b m : Nat) (C bs : List Int) (F : List Nat) (U : List Int) (A : Option Addr) (c : Nat), e = .returned (.tuple #[.pointer (some ⟨p, 0, none⟩), .slice A U.length c, .bool true]) ∧ Pg w' w.heap.size p b s m C bs F ∧ UC U C ∧ Ow uv w' w.heap.size 23 (.slice A U.length c) U.length U ∧ Below w.heap.size w w'
theorem run_is (A : Option Addr) (n c s : Nat) (S : List Stp) (w : World) (hS : Steps w.heap.size w A n S) (hn : n ≤ maxLen) (h2 : 2 ≤ s) (h4 : s ≤ 4096) : Calls Try.prog 28 #[.int .i64 (s : Int), .slice A n c] w (RunIs w s) := by
  refine (run_any A n c s S w hS hn h2 h4).mono (fun e w' h => ?_)
  rcases h with ⟨h, _⟩ | ⟨s', p, b, m, C, bs, F, U, v, hs, _, _, he, hp, hu, ho, hb⟩
  · omega
  · obtain rfl : s = s' := by omega
    obtain ⟨A2, c2, rfl, _⟩ := Ow.sl ho
    exact ⟨p, b, m, C, bs, F, U, A2, c2, he, hp, hu, ho, hb⟩
theorem quo_s {s : Nat} (h2 : 2 ≤ s) : Int.tdiv 4096 (s : Int) = ((4096 / s : Nat) : Int) ∧ IntKind.i64.wrap ((4096 / s : Nat) : Int) = ((4096 / s : Nat) : Int) := by
  have : 4096 / s ≤ 4096 := Nat.div_le_self _ _
  refine ⟨?_, by generalize 4096 / s = r at *; exact IntWalk.i64_in _ (by omega)⟩
  rw [Int.tdiv_eq_ediv_of_nonneg (by omega), Int.natCast_ediv]; rfl
theorem room_pg (B p b s m : Nat) (C bs : List Int) (F : List Nat) (w : World) (h : Pg w B p b s m C bs F) (hs : s ≤ 4096) : Calls Try.prog 16 #[.pointer (some ⟨p, 0, none⟩)] w fun e w' => e = .returned (.int .i64 (((4096 / s : Nat) : Int) - (C.length : Nat))) ∧ Below w.heap.size w w' := by
  have h1 := room_any B p b (s : Int) _ _ C bs w h.at_ (h.s4 hs).1 (h.s4 hs).2
  rw [show (4096 : Int) / (s : Int) = ((4096 / s : Nat) : Int) from by rw [Int.natCast_ediv]; rfl] at h1
  exact h1
/-- the cell of a slot in use -/
theorem ow_cell {W : World} {B : Nat} {A : Option Addr} {c : Nat} {U : List Int} (h : Ow uv W B 23 (.slice A U.length c) U.length U) {k : Nat} (hk : k < U.length) : ∃ g o, A = some ⟨g, o, none⟩ ∧ g < W.heap.size ∧ ∀ j, j < U.length → W.cell? ⟨g, o + j, none⟩ = some (.int .u16 (U.getD j 0)) := by
  obtain ⟨A5, c5, e5, hsl⟩ := Ow.sl h
  cases e5
  obtain ⟨g, o, rfl, hg, hc⟩ := hsl.rd.2 (by omega)
  exact ⟨g, o, rfl, hg, fun j hj => hc j _ (by rw [List.getElem?_eq_getElem hj, List.getD_eq_getElem?_getD, List.getElem?_eq_getElem hj]; rfl)⟩
theorem getD_mem {U : List Int} {k : Nat} (h : k < U.length) : U.getD k 0 ∈ U := by
  rw [List.getD_eq_getElem?_getD, List.getElem?_eq_getElem h]; exact List.getElem_mem h
theorem nodup_ne {U : List Int} (h : U.Nodup) {i k : Nat} (hi : i < U.length) (hk : k < U.length) (hne : i ≠ k) : U.getD i 0 ≠ U.getD k 0 := by
  rw [List.getD_eq_getElem?_getD, List.getElem?_eq_getElem hi, List.getD_eq_getElem?_getD, List.getElem?_eq_getElem hk]
  simp only [Option.getD_some]
  exact fun e => hne ((List.getElem_inj h).1 e)
end Go.Proofs.Ytjkohdenmiljpaa
