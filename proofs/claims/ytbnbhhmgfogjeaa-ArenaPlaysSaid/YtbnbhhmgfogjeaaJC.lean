/- New. -/
import Derived.Test.YtbnbhhmgfogjeaaJB
namespace Go.Proofs.Ytbnbhhmgfogjeaa
open Go.ChangeShapes Go.WideShapes Go.ChangeAt Go.RowKit Go.Maps
set_option linter.unusedVariables false
set_option linter.unusedSimpArgs false

set_option maxRecDepth 100000 in
set_option maxHeartbeats 4000000 in
theorem new_no (s : Int) (w : World) (hs : s < 2 ∨ 4096 < s) : Calls Try.prog 44 #[.int .i64 s] w fun e w' => e = .returned (.tuple #[.pointer none, .int .i64 1]) ∧ w = w' := by
  by_cases h1 : s < 2
  · have d1 : decide (s < 2) = true := decide_eq_true h1
    clear h1 hs
    go_enter Try.func44, Try.ntmps44
    go_wp2
    go_ret2
    exact ⟨rfl, rfl⟩
  · have d1 : decide (s < 2) = false := decide_eq_false h1
    have d2 : decide (4096 < s) = true := decide_eq_true (by omega)
    clear h1 hs
    go_enter Try.func44, Try.ntmps44
    go_wp2
    go_ret2
    exact ⟨rfl, rfl⟩
set_option maxRecDepth 1000000 in
theorem built69 (s : Int) (r : Nat) : Try.prog.built 102 [(0, .int .i64 s), (2, .int .u16 65535), (3, .map (some r))] = some (pgv s 0 65535 r (List.replicate 4096 0)).toArray := by kernel_rfl
theorem wpl_build {ops : Array Oper} {rest : List Oper} {o : Oper} {a : Act} {w : World} {Q : Exit → Act → World → Prop} (hg : o.guard = none) (t : TypeId) (parts : Array (Nat × Operand)) (ho : o.op = .build t parts) (cells : Array Value)
    (hf : Try.prog.built t (parts.map fun (i, x) => (i, a.eval x)).toList = some cells) (h : wpList Try.prog ops Q rest (a.put o.dst (.agg cells)) w) : wpList Try.prog ops Q (o :: rest) a w :=
  wpList_plain hg fun _ hK => wp_build t parts ho (by rw [hf]; rfl) (by rw [hf]; exact hK _ _ h)
set_option maxRecDepth 100000 in
set_option maxHeartbeats 4000000 in
theorem new_any (s : Int) (w : World) (h1 : 2 ≤ s) (h2 : s ≤ 4096) : Calls Try.prog 44 #[.int .i64 s] w fun e w' => e = .returned (.tuple #[.pointer (some ⟨w.heap.size + 1, 0, none⟩), .int .i64 0]) ∧ PgAt w' w.heap.size (w.heap.size + 1) w.heap.size s 0 65535 [] (List.replicate 4096 0) ∧ Below w.heap.size w w' := by
  have hmm := @run_makeMap Try.prog
  have d1 : decide (s < 2) = false := decide_eq_false (by omega)
  have d2 : decide (4096 < s) = false := decide_eq_false (by omega)
  obtain ⟨cells, hc⟩ : ∃ c, c = (pgv s 0 65535 w.heap.size (List.replicate 4096 0)).toArray := ⟨_, rfl⟩
  have HBT : Hid (Try.prog.built 102 [(0, .int .i64 s), (2, .int .u16 65535), (3, .map (some w.heap.size))] = some cells) := by rw [hc]; exact built69 s _
  have hb0 : Below w.heap.size w (w.alloc (.map #[] 0)) := (Below.refl _ _).alloc (Nat.le_refl _) _
  have hb1 : Below w.heap.size w ((w.alloc (.map #[] 0)).alloc (.cells cells 102)) := hb0.alloc hb0.size _
  have HB := Lib.hid hb1
  have HO : Hid (PgAt ((w.alloc (.map #[] 0)).alloc (.cells cells 102)) w.heap.size (w.heap.size + 1) w.heap.size s 0 65535 [] (List.replicate 4096 0)) :=
    ⟨Nat.le_succ _, by rw [← hc]; exact Blk.new2 _ _ _ (by simp), ⟨Nat.le_refl _, (World.ownsMap_made w Try.prog 41 unitElem).alloc _⟩, Ok.nil, List.length_replicate ..⟩
  clear h1 h2 hb0 hb1 hc
  go_enter Try.func44, Try.ntmps44
  go_wp2_with (first
    | (refine wpl_build rfl 102 _ rfl cells ?_ ?_)
    | go_in)
  · exact HBT.out
  · go_ret2
    exact ⟨rfl, HO.out, HB.out⟩
end Go.Proofs.Ytbnbhhmgfogjeaa
