/- Without of no places. -/
import Derived.Test.YtgbcncfgpdlmiaaWO
namespace Go.Proofs.Ytgbcncfgpdlmiaa
open Go.ChangeShapes Go.WideShapes Go.ChangeAt Go.RowKit Go.Maps
set_option linter.unusedVariables false
set_option linter.unusedSimpArgs false

set_option maxRecDepth 100000 in
set_option maxHeartbeats 4000000 in
theorem clonep_nil (w : World) : Calls Try.prog 40 #[.slice none 0 0] w fun e w' => e = .returned (.slice none 0 0) ∧ w = w' := by
  have e6 := eq46 none 0 0
  go_enter Try.func40, Try.ntmps40
  go_wp2
  go_ret
  exact ⟨rfl, rfl⟩
set_option maxRecDepth 100000 in
set_option maxHeartbeats 4000000 in
theorem compact_nil (w : World) : Calls Try.prog 43 #[.slice none 0 0] w fun e w' => e = .returned (.slice none 0 0) ∧ w = w' := by
  go_enter Try.func43, Try.ntmps43
  go_wp2
  go_ret
  exact ⟨rfl, rfl⟩
set_option maxRecDepth 100000 in
set_option maxHeartbeats 4000000 in
theorem without_nil (A : Option Addr) (n c : Nat) (Rs : List RE) (w : World) (h : EvS w A n Rs) (hn : n ≤ 100000) (hp : ∀ r ∈ Rs, r.2.2.1 ≤ 100000) (hcr : ∀ r ∈ Rs, -9223372036854775808 ≤ r.1.2.2.1 ∧ r.1.2.2.1 ≤ 9223372036854775807) : Calls Try.prog 20 #[.slice A n c, .slice none 0 0] w (WoEnd [] (Rs.map Prod.fst) w) := by
  obtain ⟨pl, hpl⟩ : ∃ pl, w.heap.size = pl := ⟨_, rfl⟩
  have hbx : Below w.heap.size w (w.alloc (.cells #[.slice none 0 0] 46)) := (Below.refl _ _).alloc (Nat.le_refl _) _
  have HB := Lib.hid hbx
  have HK : Hid (Blk (w.alloc (.cells #[.slice none 0 0] 46)) pl #[.slice none 0 0] 46) := Blk.new2 _ _ _ hpl
  have HPL : Hid (w.heap.size ≤ pl) := by show _ ≤ _; omega
  have q3 := HK.out.cell 0
  have f3 := HK.out.frozen 0
  simp only [List.getElem?_toArray, List.getElem?_cons_zero] at q3
  have HK4 : Hid (Blk ((w.alloc (.cells #[.slice none 0 0] 46)).setCell ⟨pl, 0, none⟩ (.slice none 0 0)) pl #[.slice none 0 0] 46) := HK.out.set _
  have HB4 : Hid (Below w.heap.size w ((w.alloc (.cells #[.slice none 0 0] 46)).setCell ⟨pl, 0, none⟩ (.slice none 0 0))) := Below.setCell (p := ⟨pl, 0, none⟩) HB.out HPL.out _
  have HW := Lib.hid (owned44 A n c Rs _ none 0 [] pl (fun t j p h => by cases h) (RSl.nil _ none) (by decide) HK4.out hcr (h.later HB4.out) hn hp)
  clear h hp hcr hbx HK HK4
  go_enter Try.func20, Try.ntmps20
  go_wp2_with fail
  refine (clonep_nil w).mono ?_
  rintro e w1 ⟨rfl, rfl⟩
  go_wp2_with fail
  refine (sort_none _).mono ?_
  rintro e w2 ⟨rfl, rfl⟩
  go_wp2_with fail
  refine (compact_nil _).mono ?_
  rintro e w3 ⟨rfl, rfl⟩
  clear hpl
  generalize w.alloc (.cells #[.slice none 0 0] 46) = w4 at *
  go_wp2_with fail
  refine HW.out.mono ?_
  rintro e w5 ⟨A3, c3, n3, Rs3, rfl, h1, h2, h3⟩
  have HE : Hid (OwdEnd (woL [] (Rs.map Prod.fst)) w (.returned (.slice A3 n3 c3)) w5) := ⟨A3, c3, n3, Rs3, rfl, h1.base HB4.out.size, h2, stepB HB4.out h3⟩
  clear h1 h2 h3
  go_wp2
  go_ret
  exact ⟨[], List.Pairwise.nil, fun x => Iff.rfl, HE.out⟩
end Go.Proofs.Ytgbcncfgpdlmiaa
