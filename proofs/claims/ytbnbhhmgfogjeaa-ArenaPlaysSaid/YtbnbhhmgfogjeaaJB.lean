/- Used, Is, what is refused, Room, New. -/
import Derived.Test.YtbnbhhmgfogjeaaJA
import Derived.Carry
import Derived.Deep.QuietTactic
import Derived.Deep.MidRow
namespace Go.Proofs.Ytbnbhhmgfogjeaa
open Go.ChangeShapes Go.WideShapes Go.ChangeAt Go.RowKit Go.Maps
set_option linter.unusedVariables false
set_option linter.unusedSimpArgs false

set_option maxRecDepth 100000 in
set_option maxHeartbeats 4000000 in
theorem used_any (B p b : Nat) (slot fresh last : Int) (C bs : List Int) (w : World) (h : PgAt w B p b slot fresh last C bs) : Calls Try.prog 41 #[.pointer (some ⟨p, 0, none⟩)] w fun x w' => x = .returned (.int .i64 (C.length : Nat)) ∧ w = w' := by
  have k3 := h.c3
  have hl : (Builtin.len_ #[99] 3 #[.map (some b)]).run Try.prog w = .ok (.int .i64 (C.length : Nat)) w := by
    have := h.own.2.len Try.underlying99 3
    rw [show Maps.size (dm C) = C.length from by simp [dm, Maps.size]] at this
    exact this
  clear h
  go_enter Try.func41, Try.ntmps41
  go_wp2
  go_ret
  exact ⟨rfl, rfl⟩
set_option maxRecDepth 100000 in
set_option maxHeartbeats 4000000 in
theorem is_any (B p b : Nat) (slot fresh last : Int) (C bs : List Int) (x : Int) (w : World) (h : PgAt w B p b slot fresh last C bs) (hx : (Lit.int .u16 x).wf = true) : Calls Try.prog 60 #[.pointer (some ⟨p, 0, none⟩), .int .u16 x] w fun e w' => e = .returned (.bool (isC C x)) ∧ Below w.heap.size w w' := by
  have k3 := h.c3
  have HM := Lib.hid h.own.2
  clear h
  go_enter Try.func60, Try.ntmps60
  go_wp2_with (first
    | (at_lookup; refine wpList_lookup_own_unit _ rfl _ _ 99 rfl 41 98 law23 Try.underlying99 (zero65 _) b C.length _ rfl HM.out _ _ rfl (keyOf_int_mk Try.underlying41 hx) ?_)
    | go_in)
  rw [has_dm]
  go_ret
  exact ⟨rfl, (Below.refl _ _).alloc (Nat.le_refl _) _⟩
set_option maxRecDepth 100000 in
set_option maxHeartbeats 4000000 in
theorem refused_any (B p b : Nat) (slot fresh last : Int) (C bs : List Int) (x : Int) (w : World) (h : PgAt w B p b slot fresh last C bs) (hx : (Lit.int .u16 x).wf = true) (r : Int) (hr : (if isC C x then 0 else 5) = r) : Calls Try.prog 61 #[.pointer (some ⟨p, 0, none⟩), .int .u16 x] w fun e w' => e = .returned (.int .i64 r) ∧ Below w.heap.size w w' := by
  have H := Lib.hid h
  have HX := Lib.hid hx
  have HR := Lib.hid hr
  clear h hx hr
  go_enter Try.func61, Try.ntmps61
  go_wp2_with fail
  refine (is_any B p b slot fresh last C bs x w H.out HX.out).mono ?_
  rintro e w1 ⟨rfl, hb⟩
  have HB := Lib.hid hb
  clear hb H HX
  generalize isC C x = ic at *
  cases ic with
  | true =>
    go_wp2
    go_ret
    exact ⟨by rw [← HR.out]; rfl, HB.out⟩
  | false =>
    go_wp2
    go_ret
    exact ⟨by rw [← HR.out]; rfl, HB.out⟩
set_option maxRecDepth 100000 in
set_option maxHeartbeats 4000000 in
theorem room_any (B p b : Nat) (slot fresh last : Int) (C bs : List Int) (w : World) (h : PgAt w B p b slot fresh last C bs) (h2 : 2 ≤ slot) (h3 : slot ≤ 4096) : Calls Try.prog 57 #[.pointer (some ⟨p, 0, none⟩)] w fun e w' => e = .returned (.int .i64 (4096 / slot - (C.length : Nat))) ∧ Below w.heap.size w w' := by
  have HL : Hid (∀ W, Below w.heap.size w W → (Builtin.len_ #[99] 3 #[.map (some b)]).run Try.prog W = .ok (.int .i64 (C.length : Nat)) W) := fun W hb => by
    have := (h.own.later hb).2.len Try.underlying99 3
    rw [show Maps.size (dm C) = C.length from by simp [dm, Maps.size]] at this
    exact this
  have H := Lib.hid h
  have hl4 := h.ok.len
  have k0 := h.c0
  have d0 : (slot == 0) = false := by rw [beq_eq_false_iff_ne]; omega
  have hne : ¬ slot = 0 := by omega
  have hd1 : (0 : Int) ≤ 4096 / slot := Int.ediv_nonneg (by omega) (by omega)
  have hd2 : 4096 / slot ≤ 4096 := Int.ediv_le_self _ (by omega)
  obtain ⟨r, hr⟩ : ∃ r : Int, 4096 / slot = r := ⟨_, rfl⟩
  have ht : Int.tdiv 4096 slot = r := by rw [← hr]; exact Int.tdiv_eq_ediv_of_nonneg (by omega)
  have wr : IntKind.i64.wrap r = r := IntWalk.i64_in _ (by omega)
  have ws : IntKind.i64.wrap (r - (C.length : Int)) = r - (C.length : Int) := IntWalk.i64_in _ (by omega)
  rw [hr]
  rw [hr] at hd1 hd2
  clear h hr
  go_enter Try.func57, Try.ntmps57
  go_upto_region 3 with (fail)
  have k0' : ∀ n, (w.drewN n).cell? ⟨p, 0, none⟩ = some (.int .i64 slot) := fun n => (H.out.later (below_drewN (Below.refl _ _) n)).c0
  have k3' : ∀ n, (w.drewN n).cell? ⟨p, 3, none⟩ = some (.map (some b)) := fun n => (H.out.later (below_drewN (Below.refl _ _) n)).c3
  have k3 := H.out.c3
  have hL : ∀ n, (Builtin.len_ #[99] 3 #[.map (some b)]).run Try.prog (w.drewN n) = .ok (.int .i64 (C.length : Nat)) (w.drewN n) := fun n => HL.out _ (below_drewN (Below.refl _ _) n)
  go_quiet (fail)
  clear hL k0' k3' k0 k3
  go_wp2
  go_ret
  exact ⟨rfl, below_drewN (Below.refl _ _) nq⟩
theorem len67 : Try.prog.arrayLen 100 = 4096 := by kernel_rfl
theorem el67 : Try.prog.elem 100 = 5 := by kernel_rfl
theorem el39 : Try.prog.elem 96 = 5 := by kernel_rfl
theorem size5 (w : World) : (sizeOf 5).run Try.prog w = .ok 1 w := by kernel_rfl
theorem arr_from (p o : Nat) (ho : o < 4096) (W : World) : (Instr.sliceAt 100 (.pointer (some ⟨p, 4, none⟩)) (some (.int .u16 (o : Int))) none none).run Try.prog W = .ok (.slice (some ⟨p, 4 + o, none⟩) (4096 - o) (4096 - o)) W := by
  have ht : Try.prog.underlying 100 = some (.array (Try.prog.arrayLen 100) (Try.prog.elem 100)) := by rw [len67, el67]; exact Try.underlying100
  rw [run_sliceAt_array_l W 100 _ ht .u16 _ (by omega) (by rw [len67]; omega), el67, size5]
  show Result.ok _ _ = _
  unfold slicedAt
  rw [len67, if_neg (by omega), Addr.add_mid]
  simp
theorem sl_to (p o m c n : Nat) (hn : n ≤ c) (W : World) : (Instr.slice 96 (.slice (some ⟨p, o, none⟩) m c) none (some (.int .i64 (n : Int))) none).run Try.prog W = .ok (.slice (some ⟨p, o, none⟩) n c) W := by
  have h1 : (0 : Int) ≤ (n : Int) ∧ (n : Int) ≤ (c : Int) := by omega
  go_simp
set_option maxRecDepth 100000 in
set_option maxHeartbeats 4000000 in
theorem at_any (B p b : Nat) (s o : Nat) (fresh last : Int) (C bs : List Int) (w : World) (h : PgAt w B p b (s : Int) fresh last C bs) (hs : 2 ≤ s) (ho : o + s ≤ 4096) : Calls Try.prog 59 #[.pointer (some ⟨p, 0, none⟩), .int .u16 (o : Int)] w fun e w' => e = .returned (.slice (some ⟨p, 4 + o, none⟩) s (4096 - o)) ∧ Below w.heap.size w w' := by
  have k0 := h.c0
  have k0' : ∀ n, (w.drewN n).cell? ⟨p, 0, none⟩ = some (.int .i64 (s : Int)) := fun n => (h.later (below_drewN (Below.refl _ _) n)).c0
  have hA := arr_from p o (by omega)
  have hB := sl_to p (4 + o) (4096 - o) (4096 - o) s (by omega)
  have d1 : s ≤ 4096 - o := by omega
  clear h
  go_enter Try.func59, Try.ntmps59
  go_upto_region 1 with (fail)
  go_quiet (fail)
  clear k0 k0' hA hB
  go_wp2
  go_ret
  exact ⟨rfl, below_drewN (Below.refl _ _) nq⟩
end Go.Proofs.Ytbnbhhmgfogjeaa
