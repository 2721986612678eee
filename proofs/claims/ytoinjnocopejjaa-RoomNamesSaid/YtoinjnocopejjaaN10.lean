/- The data of RoomNames. -/
import Derived.Test.YtoinjnocopejjaaPW
namespace Go.Proofs.Ytoinjnocopejjaa
open Go.ChangeShapes Go.WideShapes Go.ChangeAt Go.RowKit Go.Maps
set_option linter.unusedVariables false
set_option linter.unusedSimpArgs false
def cO30 : Conf := ⟨1, 2, 1, 9, 9, 2, 2, 3⟩
def cG30 : Conf := ⟨6, 8, 64, 8, 1, 1, 0, 8⟩
def c430 : Conf := ⟨1, 2, 4, 4, 9, 2, 2, 3⟩
def l13 : List Cl := [(1, 0, emp, emp, emp, 0, 0), (3, 1, { data := #[97] }, emp, emp, 0, 0), (3, 1, { data := #[98] }, emp, emp, 0, 0), (6, 1, emp, emp, emp, 0, 0), (1, 0, emp, emp, emp, 0, 0), (4, 2, { data := #[97] }, emp, emp, 0, 0), (3, 2, { data := #[99] }, emp, emp, 0, 0), (6, 2, emp, emp, emp, 0, 0), (9, 0, emp, emp, emp, 0, 2), (8, 0, emp, emp, emp, 0, 0), (1, 0, emp, emp, emp, 0, 0), (3, 3, { data := #[98] }, emp, emp, 0, 0), (7, 3, emp, emp, emp, 0, 0)]
theorem l13_ok : ∀ x ∈ l13, COk x := by
  intro x hx
  unfold l13 at hx
  simp only [List.mem_cons, List.not_mem_nil, or_false] at hx
  rcases hx with rfl | rfl | rfl | rfl | rfl | rfl | rfl | rfl | rfl | rfl | rfl | rfl | rfl <;> exact ⟨by decide, by decide, by decide, by decide, by decide, by decide, by decide⟩
def w11 : List Int := [2, 3, 93, 93, 93, 215, 97, 97, 215, 215, 2]
theorem steps11 (k : Nat) (hk : k < 11) : stepsP cf30 k = w11.getD k 0 := by
  rcases (by omega : k = 0 ∨ k = 1 ∨ k = 2 ∨ k = 3 ∨ k = 4 ∨ k = 5 ∨ k = 6 ∨ k = 7 ∨ k = 8 ∨ k = 9 ∨ k = 10) with rfl | rfl | rfl | rfl | rfl | rfl | rfl | rfl | rfl | rfl | rfl <;> kernel_rfl
theorem w11_at (k : Nat) (hk : k < 11) : (w11.map (Value.int .i64)).toArray[k]? = some (.int .i64 (w11.getD k 0)) := by
  rcases (by omega : k = 0 ∨ k = 1 ∨ k = 2 ∨ k = 3 ∨ k = 4 ∨ k = 5 ∨ k = 6 ∨ k = 7 ∨ k = 8 ∨ k = 9 ∨ k = 10) with rfl | rfl | rfl | rfl | rfl | rfl | rfl | rfl | rfl | rfl | rfl <;> rfl
abbrev R3 := Nat × Int × Int
def r3E (x : R3) : List Value := [.int .i64 (x.1 : Int), .int .i64 x.2.1, .int .i64 x.2.2]
theorem r3E_len (x : R3) : (r3E x).length = 3 := rfl
def r18 : List R3 := [(5, 3, 2), (6, 1, 1), (8, 4, 3), (9, 2, 2), (11, 2, 2), (12, 2, 2), (17, 5, 3), (18, 3, 2), (20, 6, 4), (24, 4, 3), (26, 9, 3), (27, 4, 3), (29, 4, 4), (30, 2, 2), (35, 5, 3), (36, 3, 2), (38, 3, 3), (39, 2, 2)]
def R3Ok (r : R3) : Prop := r.1 ≤ 39 ∧ nowP c430 [l13] ((runE l13 13).take r.1) = (r.2.1, r.2.2, 0)
theorem r18_all : ∀ r ∈ r18, R3Ok r := by
  intro r hr
  unfold r18 at hr
  simp only [List.mem_cons, List.not_mem_nil, or_false] at hr
  rcases hr with rfl | rfl | rfl | rfl | rfl | rfl | rfl | rfl | rfl | rfl | rfl | rfl | rfl | rfl | rfl | rfl | rfl | rfl <;> exact ⟨by decide, by kernel_rfl⟩
theorem idx96 (g off m c k : Nat) (i : Int) (hi : i = (k : Int)) (h : k < m) (W : World) : (Instr.indexAt 96 (.slice (some ⟨g, off, none⟩) m c) (.int .i64 i)).run Try.prog W = .ok (.pointer (some ⟨g, off + k * 3, none⟩)) W := by
  subst hi
  have h1 : (0 : Int) ≤ (k : Int) ∧ (k : Int) < (m : Int) := by omega
  go_simp
theorem idx85_ (g off m c k : Nat) (i : Int) (hi : i = (k : Int)) (h : k < m) (W : World) : (Instr.indexAt 85 (.slice (some ⟨g, off, none⟩) m c) (.int .i64 i)).run Try.prog W = .ok (.pointer (some ⟨g, off + k, none⟩)) W := idx85 g off m c k i hi h W
theorem ps_nil {w0 W : World} : PsOk w0 W none 0 [] := ⟨fun _ _ => ⟨rfl, fun h => absurd h (by decide)⟩, (fun x h => by cases h), (fun x h => by cases h)⟩
theorem ev_nil_ {w0 W : World} : EvOk w0 W none 0 [] := ⟨fun _ _ => ⟨rfl, fun h => absurd h (by decide)⟩, (fun x h => by cases h), (fun x h => by cases h)⟩
theorem d30 : boundP cO30 = (0, 0) ∧ stepsP cO30 2 = 0 ∧ roundsP cO30 = 0 ∧ boundP cG30 = (3584, 3136) ∧ roundsP cG30 = 37586964 ∧ stepsP cG30 8 = 6264494 := ⟨by kernel_rfl, by kernel_rfl, by kernel_rfl, by kernel_rfl, by kernel_rfl, by kernel_rfl⟩
def e1_ : Ev := (1, 0, 0, as0)
theorem n30c : nowP cO30 (psV []) (evV []) = (0, 0, 1) := by kernel_rfl
theorem n30d : nowP cf30 (psV []) (evV [eh e1_]) = (0, 0, 4) := by kernel_rfl
theorem n30e : nowP cf30 (psV []) (evV []) = (0, 0, 0) := by kernel_rfl
theorem info95 : ∃ ie, Try.prog.info? 95 = some ie ∧ ie.zero = some (.agg #[.int .i64 0, .int .i64 0, .int .i64 0]) ∧ ie.size = 3 := by
  have h : (Try.prog.info? 95).map (fun i => (i.zero, i.size)) = some (some (.agg #[.int .i64 0, .int .i64 0, .int .i64 0]), 3) := by kernel_rfl
  cases hi : Try.prog.info? 95 with
  | none => rw [hi] at h; cases h
  | some i => rw [hi] at h; simp only [Option.map_some, Option.some.injEq, Prod.mk.injEq] at h; exact ⟨i, rfl, h.1, h.2⟩
theorem fill18 : Instr.fill (fun i => some (i * 3, 3)) ((Array.range (18 * 3)).map ((Value.cells (.agg #[.int .i64 0, .int .i64 0, .int .i64 0]))[· % (Value.cells (.agg #[.int .i64 0, .int .i64 0, .int .i64 0])).size]!)) ((r18.map fun r => Value.agg (r3E r).toArray).zipIdx.map fun x => (x.2, x.1)) = some (rv r3E r18).toArray := by kernel_rfl
end Go.Proofs.Ytoinjnocopejjaa
