/- Nobody's page; a page of one slot; a page of 2048. -/
import Derived.Test.YtjkohdenmiljpaaM
namespace Go.Proofs.Ytjkohdenmiljpaa
open Go.ChangeShapes Go.WideShapes Go.ChangeAt Go.RowKit Go.Maps
set_option linter.unusedVariables false
set_option linter.unusedSimpArgs false

set_option maxRecDepth 100000 in
set_option maxHeartbeats 4000000 in
theorem refused_nil (w : World) : Calls Try.prog 33 #[.pointer none, .int .u16 0] w fun x w' => x = .returned (.int .i64 2) ∧ Below w.heap.size w w' := by
  go_enter Try.func33, Try.ntmps33
  go_wp2
  go_ret
  exact ⟨rfl, Below.refl _ _⟩
set_option maxRecDepth 100000 in
set_option maxHeartbeats 4000000 in
theorem alloc_nil (w : World) : Calls Try.prog 9 #[.pointer none] w fun x w' => x = .returned (.tuple #[.int .u16 0, .int .i64 2]) ∧ Below w.heap.size w w' := by
  go_enter Try.func9, Try.ntmps9
  go_wp2
  go_ret2
  exact ⟨rfl, Below.refl _ _⟩
set_option maxRecDepth 100000 in
set_option maxHeartbeats 4000000 in
theorem read_nil (w : World) : Calls Try.prog 10 #[.pointer none, .int .u16 0] w fun x w' => x = .returned (.tuple #[.string ⟨#[]⟩, .int .i64 2]) ∧ Below w.heap.size w w' := by
  go_enter Try.func10, Try.ntmps10
  go_wp2_with fail
  refine (refused_nil _).mono ?_
  rintro x w1 ⟨rfl, hb⟩
  have HB := Lib.hid hb
  clear hb
  go_wp2
  go_ret2
  exact ⟨rfl, HB.out⟩
set_option maxRecDepth 100000 in
set_option maxHeartbeats 4000000 in
theorem free_nil (w : World) : Calls Try.prog 12 #[.pointer none, .int .u16 0] w fun x w' => x = .returned (.int .i64 2) ∧ Below w.heap.size w w' := by
  go_enter Try.func12, Try.ntmps12
  go_wp2_with fail
  refine (refused_nil _).mono ?_
  rintro x w1 ⟨rfl, hb⟩
  have HB := Lib.hid hb
  clear hb
  go_wp2
  go_ret
  exact ⟨rfl, HB.out⟩
set_option maxRecDepth 100000 in
set_option maxHeartbeats 4000000 in
theorem write_nil (w : World) : Calls Try.prog 13 #[.pointer none, .int .u16 0, .string ⟨#[]⟩] w fun x w' => x = .returned (.int .i64 2) ∧ Below w.heap.size w w' := by
  go_enter Try.func13, Try.ntmps13
  go_wp2_with fail
  refine (refused_nil _).mono ?_
  rintro x w1 ⟨rfl, hb⟩
  have HB := Lib.hid hb
  clear hb
  go_wp2
  go_ret
  exact ⟨rfl, HB.out⟩
set_option maxRecDepth 100000 in
set_option maxHeartbeats 4000000 in
theorem is_nil (w : World) : Calls Try.prog 14 #[.pointer none, .int .u16 0] w fun x w' => x = .returned (.bool false) ∧ Below w.heap.size w w' := by
  go_enter Try.func14, Try.ntmps14
  go_wp2
  go_ret
  exact ⟨rfl, Below.refl _ _⟩
set_option maxRecDepth 100000 in
set_option maxHeartbeats 4000000 in
theorem used_nil (w : World) : Calls Try.prog 15 #[.pointer none] w fun x w' => x = .returned (.int .i64 0) ∧ Below w.heap.size w w' := by
  go_enter Try.func15, Try.ntmps15
  go_wp2
  go_ret
  exact ⟨rfl, Below.refl _ _⟩
set_option maxRecDepth 100000 in
set_option maxHeartbeats 4000000 in
theorem room_nil (w : World) : Calls Try.prog 16 #[.pointer none] w fun x w' => x = .returned (.int .i64 0) ∧ Below w.heap.size w w' := by
  go_enter Try.func16, Try.ntmps16
  go_wp2
  go_ret
  exact ⟨rfl, Below.refl _ _⟩
set_option maxRecDepth 100000 in
set_option maxHeartbeats 4000000 in
theorem copy_nil (w : World) : Calls Try.prog 17 #[.pointer none] w fun x w' => x = .returned (.pointer none) ∧ Below w.heap.size w w' := by
  go_enter Try.func17, Try.ntmps17
  go_wp2
  go_ret
  exact ⟨rfl, Below.refl _ _⟩
theorem PgAt.fr {W W' : World} {B p b q c : Nat} {slot fresh last : Int} {C bs : List Int} (h : PgAt W B q c slot fresh last C bs) (hf : Fr W W' p b) (h1 : q ≠ p) (h2 : q ≠ b) (h3 : c ≠ p) (h4 : c ≠ b) : PgAt W' B q c slot fresh last C bs :=
  ⟨h.hp, hf.blk h.blk h1 h2, ⟨h.own.1, by
    obtain ⟨es, clock, hb, r⟩ := h.own.2
    exact ⟨es, clock, (hf.block c h.blt h3 h4).trans hb, r⟩⟩, h.ok, h.len⟩
def bad : List Int := [1, 0, -1, 4097, 9223372036854775807, -9223372036854775808]
theorem bad_no : ∀ k, k < 6 → bad.getD k 0 < 2 ∨ 4096 < bad.getD k 0 := by decide
theorem bad_at {W : World} {g : Nat} (h : Blk W g #[.int .i64 1, .int .i64 0, .int .i64 (-1), .int .i64 4097, .int .i64 9223372036854775807, .int .i64 (-9223372036854775808)] 3) (k : Nat) (hk : k < 6) : W.cell? ⟨g, k, none⟩ = some (.int .i64 (bad.getD k 0)) := by
  have hk2 : k = 0 ∨ k = 1 ∨ k = 2 ∨ k = 3 ∨ k = 4 ∨ k = 5 := by omega
  rcases hk2 with rfl | rfl | rfl | rfl | rfl | rfl
  all_goals exact h.cell _
theorem index35 (g m c k : Nat) (i : Int) (hi : i = (k : Int)) (h : k < m) (W : World) : (Instr.indexAt 35 (.slice (some ⟨g, 0, none⟩) m c) (.int .i64 i)).run Try.prog W = .ok (.pointer (some ⟨g, k, none⟩)) W := by
  subst hi
  have h1 : (0 : Int) ≤ (k : Int) ∧ (k : Int) < (m : Int) := by omega
  go_simp
/-- the even numbers, so many -/
def ev (k : Nat) : List Int := (List.range k).map fun i : Nat => 2 * (i : Int)
theorem ev_len (k : Nat) : (ev k).length = k := by unfold ev; simp
theorem ins_last {x : Int} : ∀ {C : List Int}, (∀ y ∈ C, y < x) → insC x C = C ++ [x]
  | [], _ => rfl
  | y :: r, h => by
    unfold insC
    have := h y (List.mem_cons_self ..)
    rw [if_neg (by omega), ins_last (fun z hz => h z (List.mem_cons_of_mem _ hz))]; rfl
theorem ev_lt {k : Nat} : ∀ y ∈ ev k, y < 2 * (k : Int) := fun y hy => by
  unfold ev at hy
  obtain ⟨i, hi, rfl⟩ := List.mem_map.1 hy
  have := List.mem_range.1 hi
  omega
theorem ev_put (k : Nat) : putC (ev k) (2 * (k : Int)) = ev (k + 1) := by
  unfold putC
  rw [del_no (by
    cases h : isC (ev k) (2 * (k : Int)) with
    | false => rfl
    | true => have := ev_lt _ (is_mem.1 h); omega), ins_last ev_lt]
  unfold ev
  rw [List.range_succ, List.map_append]; rfl
theorem ev_is : isC (ev 2048) 4094 = true ∧ isC (ev 2048) 4096 = false ∧ isC (ev 2048) 1 = false := by decide +kernel
theorem ev_del : (delC (ev 2048) 4094).length = 2047 := by decide +kernel
/-- a slot more of 2048 -/
theorem q_step (B p b k : Nat) (w : World) (hk : k < 2048) (h : PgAt w B p b 2 (2 * (k : Int)) 65535 (ev k) zs) : Calls Try.prog 9 #[.pointer (some ⟨p, 0, none⟩)] w fun e w' => e = .returned (.tuple #[.int .u16 (2 * (k : Int)), .int .i64 0]) ∧ PgAt w' B p b 2 (2 * ((k + 1 : Nat) : Int)) 65535 (ev (k + 1)) zs ∧ Fr w w' p b := by
  have c1 : ((2 * k : Nat) : Int) = 2 * (k : Int) := by omega
  have e := alloc_of B p b 2 (2 * k) (2 * (k : Int)) 65535 (2 * ((k + 1 : Nat) : Int)) 65535 (ev k) zs w h (by omega) (by omega) (by rw [ev_len]; omega) (fun W hW => by
    have e2 := next_fresh B p b 2 (2 * (k : Int)) (ev k) zs W hW (by omega) (by omega) (by omega) (by omega)
    rw [show 2 * (k : Int) + 2 = 2 * ((k + 1 : Nat) : Int) from by omega] at e2
    rw [c1]
    exact e2)
  rw [fill_zs _ _ (by omega), c1, ev_put] at e
  exact e
theorem q_full (B p b : Nat) (w : World) (h : PgAt w B p b 2 4096 65535 (ev 2048) zs) : Calls Try.prog 9 #[.pointer (some ⟨p, 0, none⟩)] w fun e w' => e = .returned (.tuple #[.int .u16 0, .int .i64 41]) ∧ Below w.heap.size w w' := alloc_full B p b 2 4096 65535 (ev 2048) zs w h (by omega) (by omega) (by rw [ev_len]; rfl)
theorem q_free (B p b : Nat) (w : World) (h : PgAt w B p b 2 4096 65535 (ev 2048) zs) : Calls Try.prog 12 #[.pointer (some ⟨p, 0, none⟩), .int .u16 4094] w fun e w' => e = .returned (.int .i64 0) ∧ PgAt w' B p b 2 4096 4094 (delC (ev 2048) 4094) (putI zs 4094 2 65535) ∧ Fr w w' p b := free_of B p b 2 4094 4096 65535 (ev 2048) zs w h (by omega) (by omega) (by omega) ev_is.1
theorem q_al (B p b : Nat) (w : World) (h : PgAt w B p b 2 4096 4094 (delC (ev 2048) 4094) (putI zs 4094 2 65535)) : Calls Try.prog 19 #[.pointer (some ⟨p, 0, none⟩)] w fun e w' => e = .returned (.int .u16 4094) ∧ Fr w w' p b :=
  (al_of B p b 2 4094 4096 4094 4096 (getI (putI zs 4094 2 65535) 4094 2) (delC (ev 2048) 4094) (putI zs 4094 2 65535) w h (by omega) (by omega) (by rw [ev_del]; decide) (fun W hW => next_back B p b 2 4094 4096 _ _ W hW (zs_bytes.putI 2 _ _) (by omega) (by omega))).mono (fun _ _ h => ⟨h.1, h.2.2⟩)
theorem q_is (B p b : Nat) (x : Int) (r : Bool) (w : World) (h : PgAt w B p b 2 4096 65535 (ev 2048) zs) (hx : (Lit.int .u16 x).wf = true) (hr : isC (ev 2048) x = r) : Calls Try.prog 14 #[.pointer (some ⟨p, 0, none⟩), .int .u16 x] w fun e w' => e = .returned (.bool r) ∧ Below w.heap.size w w' := by
  rw [← hr]; exact is_any B p b 2 4096 65535 (ev 2048) zs x w h hx
theorem q_room (B p b : Nat) (w : World) (h : PgAt w B p b 2 0 65535 [] zs) : Calls Try.prog 16 #[.pointer (some ⟨p, 0, none⟩)] w fun e w' => e = .returned (.int .i64 2048) ∧ Below w.heap.size w w' := room_any B p b 2 0 65535 [] zs w h (by omega) (by omega)
theorem p_room (B p b : Nat) (w : World) (h : PgAt w B p b 4096 0 65535 [] zs) : Calls Try.prog 16 #[.pointer (some ⟨p, 0, none⟩)] w fun e w' => e = .returned (.int .i64 1) ∧ Below w.heap.size w w' := room_any B p b 4096 0 65535 [] zs w h (by omega) (by omega)
theorem p_al (B p b : Nat) (w : World) (h : PgAt w B p b 4096 0 65535 [] zs) : Calls Try.prog 19 #[.pointer (some ⟨p, 0, none⟩)] w fun e w' => e = .returned (.int .u16 0) ∧ PgAt w' B p b 4096 4096 65535 [0] zs ∧ Fr w w' p b := by
  have e := al_of B p b 4096 0 0 65535 4096 65535 [] zs w h (by omega) (by omega) (by decide) (fun W hW => next_fresh B p b 4096 0 [] zs W hW (by omega) (by omega) (by omega) (by omega))
  rw [fill_zs _ _ (by omega), show putC [] ((0 : Nat) : Int) = [0] from by decide] at e
  exact e
theorem p_full (B p b : Nat) (w : World) (h : PgAt w B p b 4096 4096 65535 [0] zs) : Calls Try.prog 19 #[.pointer (some ⟨p, 0, none⟩)] w fun e w' => e = .returned (.int .u16 9) ∧ Below w.heap.size w w' := al_full B p b 4096 4096 65535 [0] zs w h (by omega) (by omega) (by decide)
theorem p_long (B p b : Nat) (S : ByteArray) (w : World) (h : PgAt w B p b 4096 4096 65535 [0] zs) (hS : S.size = 4097) : Calls Try.prog 13 #[.pointer (some ⟨p, 0, none⟩), .int .u16 0, .string S] w fun e w' => e = .returned (.int .i64 40) ∧ Below w.heap.size w w' := write_long B p b 4096 0 4096 65535 [0] zs S w h (by omega) (by decide) (by omega)
theorem p_write (B p b : Nat) (S : ByteArray) (w : World) (h : PgAt w B p b 4096 4096 65535 [0] zs) (hS : S.size = 4096) : Calls Try.prog 13 #[.pointer (some ⟨p, 0, none⟩), .int .u16 0, .string S] w fun e w' => e = .returned (.int .i64 0) ∧ PgAt w' B p b 4096 4096 65535 [0] (fillZ (putS zs 0 S) (0 + S.size) (4096 - S.size)) ∧ Fr w w' p b := write_of B p b 4096 0 4096 65535 [0] zs S w h (by omega) (by omega) (by decide) (by omega)
section
variable (B p b : Nat) (bs : List Int) (w : World)
theorem p_read (h : PgAt w B p b 4096 4096 65535 [0] bs) : Calls Try.prog 10 #[.pointer (some ⟨p, 0, none⟩), .int .u16 1] w fun e w' => e = .returned (.tuple #[.string ByteArray.empty, .int .i64 5]) ∧ Below w.heap.size w w' := read_no B p b 4096 4096 65535 [0] bs 1 w h (by decide) (by decide)
theorem p_no (h : PgAt w B p b 4096 4096 65535 [0] bs) : Calls Try.prog 12 #[.pointer (some ⟨p, 0, none⟩), .int .u16 65535] w fun e w' => e = .returned (.int .i64 5) ∧ Below w.heap.size w w' := free_no B p b 4096 4096 65535 [0] bs 65535 w h (by decide) (by decide)
theorem p_free (h : PgAt w B p b 4096 4096 65535 [0] bs) : Calls Try.prog 12 #[.pointer (some ⟨p, 0, none⟩), .int .u16 0] w fun e w' => e = .returned (.int .i64 0) ∧ PgAt w' B p b 4096 4096 0 [] (putI bs 0 2 65535) ∧ Fr w w' p b := free_of B p b 4096 0 4096 65535 [0] bs w h (by omega) (by omega) (by omega) (by decide)
theorem p_free2 (h : PgAt w B p b 4096 4096 0 [] bs) : Calls Try.prog 12 #[.pointer (some ⟨p, 0, none⟩), .int .u16 0] w fun e w' => e = .returned (.int .i64 5) ∧ Below w.heap.size w w' := free_no B p b 4096 4096 0 [] bs 0 w h (by decide) (by decide)
theorem p_write2 (h : PgAt w B p b 4096 4096 0 [] bs) : Calls Try.prog 13 #[.pointer (some ⟨p, 0, none⟩), .int .u16 0, .string ⟨#[]⟩] w fun e w' => e = .returned (.int .i64 5) ∧ Below w.heap.size w w' := write_no B p b 4096 4096 0 [] bs 0 ⟨#[]⟩ w h (by decide) (by decide)
theorem p_is (h : PgAt w B p b 4096 4096 0 [] bs) : Calls Try.prog 14 #[.pointer (some ⟨p, 0, none⟩), .int .u16 0] w fun e w' => e = .returned (.bool false) ∧ Below w.heap.size w w' := is_any B p b 4096 4096 0 [] bs 0 w h (by decide)
end
theorem mk_z (n : Nat) (hn : n ≤ 100000) (W : World) : (Instr.makeSlice 39 (.int .i64 (n : Int)) (.int .i64 (n : Int))).run Try.prog W = .ok (.slice (some ⟨W.heap.size, 0, none⟩) n n) (W.alloc (.cells (madeCells #[.int .u8 0] n) 5)) := by
  obtain ⟨i, hi, hz, hs, hb⟩ := info5
  have := run_make (P := Try.prog) W 39 5 i (.int .u8 0) Try.underlying39 hi hz .i64 .i64 n n (by omega) (by omega) (by rw [hb]; omega) (by omega)
  rw [hs] at this
  simpa [Value.cells] using this
theorem made_at' (n j : Nat) (h : j < n) : (madeCells #[Value.int .u8 0] n)[j]? = some (.int .u8 0) := by
  unfold madeCells
  simp [h, Nat.mod_one]
theorem conv_z (n : Nat) (W : World) : (convert 39 9 (.slice (some ⟨W.heap.size, 0, none⟩) n n)).run Try.prog (W.alloc (.cells (madeCells #[.int .u8 0] n) 5)) = .ok (.string (strOfNums (List.replicate n 0))) (W.alloc (.cells (madeCells #[.int .u8 0] n) 5)) := by
  refine run_convert_bytes_arg _ 39 5 Try.underlying39 Try.underlying5 _ 0 n n (List.replicate n 0) (by simp) (fun i hi => ?_) 9 Try.underlying9
  have hc := (Blk.new W (madeCells #[.int .u8 0] n) 5).cell i
  rw [Nat.zero_add, hc, made_at' n i hi, List.getD_eq_getElem?_getD, List.getElem?_replicate, if_pos hi]
  rfl
theorem str_size (n : Nat) : (strOfNums (List.replicate n 0)).size = n := by rw [strOfNums_size, List.length_replicate]
end Go.Proofs.Ytjkohdenmiljpaa
