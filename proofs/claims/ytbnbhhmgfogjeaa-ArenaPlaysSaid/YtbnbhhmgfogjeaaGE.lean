/- New; the first page that has room, or one more. -/
import Derived.Test.YtbnbhhmgfogjeaaGD
import Derived.Deep.RegionHeld3
import Derived.Deep.AppendLies
namespace Go.Proofs.Ytbnbhhmgfogjeaa
open Go.ChangeShapes Go.WideShapes Go.ChangeAt Go.RowKit Go.Maps
set_option linter.unusedVariables false
set_option linter.unusedSimpArgs false

set_option maxRecDepth 100000 in
set_option maxHeartbeats 4000000 in
theorem arnew_no (x : Int) (w : World) (hx : x < 2 ∨ 4096 < x) : Calls Try.prog 20 #[.int .i64 x] w fun e w' => e = .returned (.tuple #[.pointer none, .int .i64 1]) ∧ w = w' := by
  have HX := Lib.hid hx
  clear hx
  go_enter Try.func20, Try.ntmps20
  go_wp2_with fail
  refine (new_no x w HX.out).mono ?_
  rintro e w1 ⟨rfl, rfl⟩
  go_wp2
  go_ret2
  exact ⟨rfl, rfl⟩
theorem built71 (s : Int) (r : Nat) : Try.prog.built 71 [(0, .int .i64 s), (3, .map (some r))] = some #[.int .i64 s, .slice none 0 0, .int .i64 0, .map (some r)] := by kernel_rfl
def NewA (s : Nat) (w : World) (e : Ending) (w' : World) : Prop := ∃ a S, e = .returned (.tuple #[.pointer (some ⟨a, 0, none⟩), .int .i64 0]) ∧ AR w' w.heap.size a s (0, [], []) S ∧ Below w.heap.size w w'
set_option maxRecDepth 100000 in
set_option maxHeartbeats 4000000 in
theorem arnew_any (s : Nat) (w : World) (h1 : 2 ≤ s) (h2 : s ≤ 4096) : Calls Try.prog 20 #[.int .i64 (s : Int)] w (NewA s w) := by
  have hmm := @run_makeMap Try.prog
  go_enter Try.func20, Try.ntmps20
  go_wp2_with fail
  refine (pg_new s w h1 h2).mono ?_
  rintro e w1 ⟨rfl, _, hb⟩
  have HB := Lib.hid hb
  clear hb
  have hbt := built71 (s : Int) w1.heap.size
  have hb1 : Below w1.heap.size w1 (w1.alloc (.map #[] 0)) := (Below.refl _ _).alloc (Nat.le_refl _) _
  have HB2 : Hid (Below w1.heap.size w1 ((w1.alloc (.map #[] 0)).alloc (.cells #[.int .i64 (s : Int), .slice none 0 0, .int .i64 0, .map (some w1.heap.size)] 71))) := hb1.alloc hb1.size _
  have HO : Hid (AR ((w1.alloc (.map #[] 0)).alloc (.cells #[.int .i64 (s : Int), .slice none 0 0, .int .i64 0, .map (some w1.heap.size)] 71)) w1.heap.size (w1.heap.size + 1) s (0, [], []) (ArSet (w1.heap.size + 1) w1.heap.size (.slice none 0 0) [])) :=
    ⟨w1.heap.size, .slice none 0 0, [], ⟨Nat.le_succ _, Blk.new2 _ _ _ (by simp), Ow.none _ _ _, ⟨Nat.le_refl _, (World.ownsMap_made w1 Try.prog 74 gn.R3).alloc _⟩, gn.Ok.nil, (fun x hx => by cases hx), List.Pairwise.nil, (fun x hx => by cases hx)⟩, rfl, rfl, Nat.le_refl _, by simp⟩
  clear hb1
  go_wp2_with (first
    | (refine wpl_build rfl 71 _ rfl _ hbt ?_)
    | fail)
  go_ret2
  exact ⟨_, _, rfl, HO.out.base HB.out.size, stepB HB.out HB2.out⟩
end Go.Proofs.Ytbnbhhmgfogjeaa
