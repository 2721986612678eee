/- The examples, step by step. -/
import Derived.Test.YtjkohdenmiljpaaI
namespace Go.Proofs.Ytjkohdenmiljpaa
open Go.ChangeShapes Go.WideShapes Go.ChangeAt Go.RowKit Go.Maps
set_option linter.unusedVariables false
set_option linter.unusedSimpArgs false

theorem aw_a0 (B p b : Nat) (w : World) (h : PgAt w B p b 1000 0 65535 [] zs) : Calls Try.prog 19 #[.pointer (some ⟨p, 0, none⟩)] w fun e w' => e = .returned (.int .u16 0) ∧ PgAt w' B p b 1000 1000 65535 [0] zs ∧ Fr w w' p b := by
  have e := al_of B p b 1000 0 0 65535 1000 65535 [] zs w h (by omega) (by omega) (by decide) (fun W hW => next_fresh B p b 1000 0 [] zs W hW (by omega) (by omega) (by omega) (by omega))
  rw [fill_zs _ _ (by omega), show putC [] ((0 : Nat) : Int) = [0] from by decide] at e
  exact e
theorem aw_a1 (B p b : Nat) (w : World) (h : PgAt w B p b 1000 1000 65535 [0] zs) : Calls Try.prog 19 #[.pointer (some ⟨p, 0, none⟩)] w fun e w' => e = .returned (.int .u16 1000) ∧ PgAt w' B p b 1000 2000 65535 [0, 1000] zs ∧ Fr w w' p b := by
  have e := al_of B p b 1000 1000 1000 65535 2000 65535 [0] zs w h (by omega) (by omega) (by decide) (fun W hW => next_fresh B p b 1000 1000 [0] zs W hW (by omega) (by omega) (by omega) (by omega))
  rw [fill_zs _ _ (by omega), show putC [0] ((1000 : Nat) : Int) = [0, 1000] from by decide] at e
  exact e
theorem aw_a2 (B p b : Nat) (w : World) (h : PgAt w B p b 1000 2000 65535 [0, 1000] zs) : Calls Try.prog 19 #[.pointer (some ⟨p, 0, none⟩)] w fun e w' => e = .returned (.int .u16 2000) ∧ PgAt w' B p b 1000 3000 65535 [0, 1000, 2000] zs ∧ Fr w w' p b := by
  have e := al_of B p b 1000 2000 2000 65535 3000 65535 [0, 1000] zs w h (by omega) (by omega) (by decide) (fun W hW => next_fresh B p b 1000 2000 [0, 1000] zs W hW (by omega) (by omega) (by omega) (by omega))
  rw [fill_zs _ _ (by omega), show putC [0, 1000] ((2000 : Nat) : Int) = [0, 1000, 2000] from by decide] at e
  exact e
theorem aw_a3 (B p b : Nat) (w : World) (h : PgAt w B p b 1000 3000 65535 [0, 1000, 2000] zs) : Calls Try.prog 19 #[.pointer (some ⟨p, 0, none⟩)] w fun e w' => e = .returned (.int .u16 3000) ∧ PgAt w' B p b 1000 4000 65535 [0, 1000, 2000, 3000] zs ∧ Fr w w' p b := by
  have e := al_of B p b 1000 3000 3000 65535 4000 65535 [0, 1000, 2000] zs w h (by omega) (by omega) (by decide) (fun W hW => next_fresh B p b 1000 3000 [0, 1000, 2000] zs W hW (by omega) (by omega) (by omega) (by omega))
  rw [fill_zs _ _ (by omega), show putC [0, 1000, 2000] ((3000 : Nat) : Int) = [0, 1000, 2000, 3000] from by decide] at e
  exact e
theorem aw_full (B p b : Nat) (w : World) (h : PgAt w B p b 1000 4000 65535 [0, 1000, 2000, 3000] zs) : Calls Try.prog 19 #[.pointer (some ⟨p, 0, none⟩)] w fun e w' => e = .returned (.int .u16 9) ∧ Below w.heap.size w w' := al_full B p b 1000 4000 65535 [0, 1000, 2000, 3000] zs w h (by omega) (by omega) (by decide)
theorem aw_err (B p b : Nat) (w : World) (h : PgAt w B p b 1000 4000 65535 [0, 1000, 2000, 3000] zs) : Calls Try.prog 9 #[.pointer (some ⟨p, 0, none⟩)] w fun e w' => e = .returned (.tuple #[.int .u16 0, .int .i64 41]) ∧ Below w.heap.size w w' := alloc_full B p b 1000 4000 65535 [0, 1000, 2000, 3000] zs w h (by omega) (by omega) (by decide)
theorem aw_f1 (B p b : Nat) (w : World) (h : PgAt w B p b 1000 4000 65535 [0, 1000, 2000, 3000] zs) : Calls Try.prog 12 #[.pointer (some ⟨p, 0, none⟩), .int .u16 1000] w fun e w' => e = .returned (.int .i64 0) ∧ PgAt w' B p b 1000 4000 1000 [0, 2000, 3000] bs1 ∧ Fr w w' p b := by
  have e := free_of B p b 1000 1000 4000 65535 [0, 1000, 2000, 3000] zs w h (by omega) (by omega) (by omega) (by decide)
  rw [show delC [0, 1000, 2000, 3000] ((1000 : Nat) : Int) = [0, 2000, 3000] from by decide] at e
  exact e
theorem aw_f2 (B p b : Nat) (w : World) (h : PgAt w B p b 1000 4000 1000 [0, 2000, 3000] bs1) : Calls Try.prog 12 #[.pointer (some ⟨p, 0, none⟩), .int .u16 3000] w fun e w' => e = .returned (.int .i64 0) ∧ PgAt w' B p b 1000 4000 3000 [0, 2000] bs2 ∧ Fr w w' p b := by
  have e := free_of B p b 1000 3000 4000 1000 [0, 2000, 3000] bs1 w h (by omega) (by omega) (by omega) (by decide)
  rw [show delC [0, 2000, 3000] ((3000 : Nat) : Int) = [0, 2000] from by decide] at e
  exact e
theorem aw_b1 (B p b : Nat) (w : World) (h : PgAt w B p b 1000 4000 3000 [0, 2000] bs2) : Calls Try.prog 19 #[.pointer (some ⟨p, 0, none⟩)] w fun e w' => e = .returned (.int .u16 3000) ∧ PgAt w' B p b 1000 4000 1000 [0, 2000, 3000] bs1 ∧ Fr w w' p b := by
  have e := al_of B p b 1000 3000 4000 3000 4000 1000 [0, 2000] bs2 w h (by omega) (by omega) (by decide) (fun W hW => by
    have e2 := next_back B p b 1000 3000 4000 [0, 2000] bs2 W hW bytes2 (by omega) (by omega)
    rw [get_2] at e2
    exact e2)
  rw [fill_2, show putC [0, 2000] ((3000 : Nat) : Int) = [0, 2000, 3000] from by decide] at e
  exact e
theorem aw_b2 (B p b : Nat) (w : World) (h : PgAt w B p b 1000 4000 1000 [0, 2000, 3000] bs1) : Calls Try.prog 19 #[.pointer (some ⟨p, 0, none⟩)] w fun e w' => e = .returned (.int .u16 1000) ∧ PgAt w' B p b 1000 4000 65535 [0, 1000, 2000, 3000] zs ∧ Fr w w' p b := by
  have e := al_of B p b 1000 1000 4000 1000 4000 65535 [0, 2000, 3000] bs1 w h (by omega) (by omega) (by decide) (fun W hW => by
    have e2 := next_back B p b 1000 1000 4000 [0, 2000, 3000] bs1 W hW bytes1 (by omega) (by omega)
    rw [get_1] at e2
    exact e2)
  rw [fill_1, show putC [0, 2000, 3000] ((1000 : Nat) : Int) = [0, 1000, 2000, 3000] from by decide] at e
  exact e
theorem aw_w (B p b : Nat) (w : World) (h : PgAt w B p b 1000 4000 65535 [0, 1000, 2000, 3000] zs) : Calls Try.prog 13 #[.pointer (some ⟨p, 0, none⟩), .int .u16 1000, .string ⟨#[97, 98]⟩] w fun e w' => e = .returned (.int .i64 0) ∧ PgAt w' B p b 1000 4000 65535 [0, 1000, 2000, 3000] bs5 ∧ Fr w w' p b := by
  have e := write_of B p b 1000 1000 4000 65535 [0, 1000, 2000, 3000] zs ⟨#[97, 98]⟩ w h (by omega) (by omega) (by decide) (by decide)
  exact e
theorem aw_r (B p b : Nat) (w : World) (h : PgAt w B p b 1000 4000 65535 [0, 1000, 2000, 3000] bs5) : Calls Try.prog 10 #[.pointer (some ⟨p, 0, none⟩), .int .u16 1000] w fun e w' => e = .returned (.tuple #[.string ab998, .int .i64 0]) ∧ Below w.heap.size w w' := by
  have e := read_of B p b 1000 1000 4000 65535 [0, 1000, 2000, 3000] bs5 w h (by omega) (by omega) (by decide)
  rw [read_5] at e
  exact e
theorem aw_n (B p b : Nat) (w : World) (h : PgAt w B p b 1000 4000 65535 [0, 1000, 2000, 3000] bs5) : Calls Try.prog 12 #[.pointer (some ⟨p, 0, none⟩), .int .u16 500] w fun e w' => e = .returned (.int .i64 5) ∧ Below w.heap.size w w' := free_no B p b 1000 4000 65535 [0, 1000, 2000, 3000] bs5 500 w h (by decide) (by decide)
theorem aw_new (w : World) : Calls Try.prog 18 #[.int .i64 1000] w fun e w' => e = .returned (.tuple #[.pointer (some ⟨w.heap.size + 1, 0, none⟩), .int .i64 0]) ∧ PgAt w' w.heap.size (w.heap.size + 1) w.heap.size 1000 0 65535 [] zs ∧ Below w.heap.size w w' := new_any 1000 w (by omega) (by omega)
end Go.Proofs.Ytjkohdenmiljpaa
