/- Steps as an argument; too many of them; which handle a step is of; a step is done. -/
import Derived.Test.YtbnbhhmgfogjeaaGJ
import Derived.Test.YtbnbhhmgfogjeaaLF
import Derived.Deep.Slices
import Derived.Deep.Strs
import Derived.SliceStrings
import Derived.ChangeMaps5
import Derived.ChangeSame
import Derived.Lib.SmallJoins
namespace Go.Proofs.Ytbnbhhmgfogjeaa
open Go.ChangeShapes Go.WideShapes Go.ChangeAt Go.RowKit Go.Maps Go.Deep Go.Joins
set_option linter.unusedVariables false
set_option linter.unusedSimpArgs false

/-- a step: what, the number of a handle, a handle, a text -/
abbrev Stp := Int × Int × Int × ByteArray
abbrev stp0 : Stp := (0, 0, 0, ByteArray.empty)
def stv (s : Stp) : List Value := [.int .u8 s.1, .int .i64 s.2.1, .int .u64 s.2.2.1, .string s.2.2.2]
def StpOk (s : Stp) : Prop := (-9223372036854775808 ≤ s.2.1 ∧ s.2.1 ≤ 9223372036854775807) ∧ (0 ≤ s.2.2.1 ∧ s.2.2.1 ≤ 18446744073709551615) ∧ s.2.2.2.size ≤ maxLen
structure SCell (W : World) (g o : Nat) (s : Stp) : Prop where
  c0 : W.cell? ⟨g, o, none⟩ = some (.int .u8 s.1)
  c1 : W.cell? ⟨g, o + 1, none⟩ = some (.int .i64 s.2.1)
  c2 : W.cell? ⟨g, o + 2, none⟩ = some (.int .u64 s.2.2.1)
  c3 : W.cell? ⟨g, o + 3, none⟩ = some (.string s.2.2.2)
theorem SCell.below {W W' : World} {n g o : Nat} {s : Stp} (h : SCell W g o s) (hb : Below n W W') (hg : g < n) : SCell W' g o s :=
  ⟨(hb.cell (p := ⟨g, o, none⟩) hg).trans h.c0, (hb.cell (p := ⟨g, o + 1, none⟩) hg).trans h.c1, (hb.cell (p := ⟨g, o + 2, none⟩) hg).trans h.c2, (hb.cell (p := ⟨g, o + 3, none⟩) hg).trans h.c3⟩
def Steps (n₀ : Nat) (W : World) (A : Option Addr) (n : Nat) (S : List Stp) : Prop :=
  S.length = n ∧ (0 < n → ∃ g off, A = some ⟨g, off, none⟩ ∧ g < n₀ ∧ ∀ j, j < n → SCell W g (off + j * 4) (S.getD j stp0) ∧ StpOk (S.getD j stp0))
theorem Steps.below {n₀ : Nat} {W W' : World} {A : Option Addr} {n : Nat} {S : List Stp} (h : Steps n₀ W A n S) (hb : Below n₀ W W') : Steps n₀ W' A n S :=
  ⟨h.1, fun hn => by
    obtain ⟨g, off, hA, hg, hc⟩ := h.2 hn
    exact ⟨g, off, hA, hg, fun j hj => ⟨(hc j hj).1.below hb hg, (hc j hj).2⟩⟩⟩
theorem Steps.mono {n₀ n₁ : Nat} {W : World} {A : Option Addr} {n : Nat} {S : List Stp} (h : Steps n₀ W A n S) (hn : n₀ ≤ n₁) : Steps n₁ W A n S :=
  ⟨h.1, fun h0 => by
    obtain ⟨g, off, hA, hg, hc⟩ := h.2 h0
    exact ⟨g, off, hA, Nat.lt_of_lt_of_le hg hn, hc⟩⟩
theorem sindex (g off m c k : Nat) (i : Int) (hi : i = (k : Int)) (h : k < m) (W : World) : (Instr.indexAt 43 (.slice (some ⟨g, off, none⟩) m c) (.int .i64 i)).run Try.prog W = .ok (.pointer (some ⟨g, off + k * 4, none⟩)) W := by
  subst hi
  have h1 : (0 : Int) ≤ (k : Int) ∧ (k : Int) < (m : Int) := by omega
  go_simp
theorem u51 : ∃ f0 f1 f2 f3 : Field, Try.prog.underlying 51 = some (.struct #[f0, f1, f2, f3]) ∧ f0.type = 5 ∧ f1.type = 3 ∧ f2.type = 23 ∧ f3.type = 9 ∧ f0.offset = 0 ∧ f1.offset = 1 ∧ f2.offset = 2 ∧ f3.offset = 3 :=
  ⟨_, _, _, _, Try.underlying51, rfl, rfl, rfl, rfl, rfl, rfl, rfl, rfl⟩
theorem cells51 : Try.prog.cellsOf 51 = 4 := by kernel_rfl
theorem cells5 : Try.prog.cellsOf 5 = 1 := by kernel_rfl
theorem cells3 : Try.prog.cellsOf 3 = 1 := by kernel_rfl
theorem cells23 : Try.prog.cellsOf 23 = 1 := by kernel_rfl
theorem cells9 : Try.prog.cellsOf 9 = 1 := by kernel_rfl
theorem list4 {α : Type} {l : List α} (h : l.length = 4) : ∃ a b c d, l = [a, b, c, d] := by
  match l, h with
  | [a, b, c, d], _ => exact ⟨a, b, c, d, rfl⟩
theorem rgI {x : Int} (h : (Lit.int .i64 x).wf = true) : -9223372036854775808 ≤ x ∧ x ≤ 9223372036854775807 := by
  simp only [Lit.wf, Bool.and_eq_true, decide_eq_true_eq] at h
  exact ⟨h.1, h.2⟩
theorem rgU {x : Int} (h : (Lit.int .u64 x).wf = true) : 0 ≤ x ∧ x ≤ 18446744073709551615 := by
  simp only [Lit.wf, Bool.and_eq_true, decide_eq_true_eq] at h
  exact ⟨h.1, h.2⟩
section
variable {H : Type} {enc : TypeId × Value → H}
theorem stp_read {W : World} {base : Nat} {spare : Nat → Bool} {held : Bool} {fuel : Nat} {cs : List Value} {x : DataW H × List MemPlace} (h : DataW.trod enc Try.prog W base spare held fuel 51 cs = some x) :
    ∃ v : Stp, cs = stv v ∧ StpOk v := by
  obtain ⟨f0, f1, f2, f3, hu, t0, t1, t2, t3, o0, o1, o2, o3⟩ := u51
  obtain ⟨y0, y1, y2, y3, n, hx, hl, h0, h1, h2, h3⟩ := trod_struct4 hu h
  obtain ⟨c0, c1, c2, c3, rfl⟩ := list4 (hl.trans cells51)
  rw [t0, o0, cells5] at h0
  rw [t1, o1, cells3] at h1
  rw [t2, o2, cells23] at h2
  rw [t3, o3, cells9] at h3
  obtain ⟨a, e0, _, _⟩ := DataW.trod_int Try.underlying5 h0
  obtain ⟨b, e1, _, w1⟩ := DataW.trod_int Try.underlying3 h1
  obtain ⟨c, e2, _, w2⟩ := DataW.trod_int Try.underlying23 h2
  obtain ⟨d, e3, _, w3⟩ := DataW.trod_string Try.underlying9 h3
  simp at e0 e1 e2 e3
  subst e0 e1 e2 e3
  exact ⟨(a, b, c, d), rfl, rgI w1, rgU w2, w3⟩
set_option maxRecDepth 100000 in
theorem open_steps {W : World} {base : Nat} {v : Value} {d : DataW H} {ps : List MemPlace}
    (hval : Value.okWide Try.prog W .any base 43 v) (h : DataW.Trod enc Try.prog W 0 (fun _ => true) true 43 v d ps) :
    ∃ A n c S, v = .slice A n c ∧ Steps W.heap.size W A n S ∧ n ≤ maxLen ∧ n ≤ c ∧ (A = none → n = 0 ∧ c = 0) := by
  obtain ⟨A, n, c, rfl⟩ := okWide_slice Try.underlying43 hval
  obtain ⟨fuel, hf⟩ := h
  rcases open_slice Try.underlying43 hf with ⟨hcs, _⟩ | ⟨a, len, cap, m, n1, D, Pl, hcs, hb, hl, hm, hmm, hx, hi⟩
  · simp [Value.cells] at hcs
    obtain ⟨rfl, rfl, rfl⟩ := hcs
    exact ⟨none, 0, 0, [], rfl, ⟨rfl, fun h => by omega⟩, Nat.zero_le _, Nat.le_refl _, fun _ => ⟨rfl, rfl⟩⟩
  · simp [Value.cells] at hcs
    obtain ⟨rfl, rfl, rfl⟩ := hcs
    simp only [if_true] at hmm
    subst hmm
    have hone : ∀ i, i < n → ∃ v : Stp, (∀ j, j < 4 → W.cell? (a.add (i * 4 + j)) = (stv v)[j]?) ∧ StpOk v := fun i hin => by
      obtain ⟨cs', hc, ht⟩ := hi i (by omega)
      rw [cells51] at hc
      obtain ⟨v, rfl, hw⟩ := stp_read ht
      obtain ⟨_, _, hat⟩ := World.cells?_some hc
      exact ⟨v, fun j hj => by rw [← Go.Deep.add_add]; exact hat j hj, hw⟩
    obtain ⟨f, hf'⟩ := choose_lt hone
    have hgd : ∀ j, j < n → ((List.range n).map f).getD j stp0 = f j := fun j hj => by
      simp [List.getD_eq_getElem?_getD, hj]
    refine ⟨some a, n, m, (List.range n).map f, rfl, ⟨by simp, fun hn => ?_⟩, by omega, by omega, fun h => by cases h⟩
    obtain ⟨b, off, spot⟩ := a
    have h0 := (hf' 0 hn).1 0 (by omega)
    have hspot : spot = none := by simpa [Addr.add] using World.cell?_spot (v := .int .u8 (f 0).1) h0
    subst hspot
    have hlt : b < W.heap.size := by
      by_cases hge : b < W.heap.size
      · exact hge
      · have : W.heap[b]? = none := Array.getElem?_eq_none (by omega)
        simp [World.cell?, Addr.add, this, stv] at h0
    refine ⟨b, off, rfl, hlt, fun j hj => ?_⟩
    rw [hgd j hj]
    have e0 := (hf' j hj).1 0 (by omega)
    have e1 := (hf' j hj).1 1 (by omega)
    have e2 := (hf' j hj).1 2 (by omega)
    have e3 := (hf' j hj).1 3 (by omega)
    rw [add_plain] at e0 e1 e2 e3
    exact ⟨⟨e0, e1, e2, e3⟩, (hf' j hj).2⟩
end
def LargeEnd (n : Nat) (w : World) (e : Ending) (w' : World) : Prop := ∃ r : Bool, e = .returned (.bool r) ∧ w = w' ∧ (r = false → n ≤ 200)
set_option maxRecDepth 100000 in
theorem large_end {n : Nat} {w : World} {x : Int} {r : Bool} (hr : r = decide (20000 ≤ x)) (h : 100 * (n : Int) ≤ x ∨ 20000 ≤ x) : LargeEnd n w (.returned (.bool r)) w := ⟨r, rfl, rfl, fun e => by
  subst hr
  have := of_decide_eq_false e
  omega⟩
set_option maxRecDepth 100000 in
set_option maxHeartbeats 4000000 in
theorem large_any (A : Option Addr) (n c : Nat) (S : List Stp) (w : World) (hS : Steps w.heap.size w A n S) (hn : n ≤ maxLen) : Calls Try.prog 23 #[.slice A n c] w (LargeEnd n w) := by
  have HS := Lib.hid hS
  unfold maxLen at hn
  clear hS
  go_enter Try.func23, Try.ntmps23
  go_wp2
  go_loop [3, 4] (fun s i => ∃ (k : Nat) (x : Int), k ≤ n ∧ i = .int .i64 k ∧ s = .int .i64 x ∧ 100 * (k : Int) ≤ x ∧ x ≤ 29100) (fun _ i => n - (intOf i).toNat)
  case atStart => exact ⟨0, 0, Nat.zero_le _, rfl, rfl, by omega, by omega⟩
  case round =>
    obtain ⟨k, x, hk, rfl, rfl, hx0, hx1⟩ := hrel
    by_cases hlt : k < n
    · have d2 : decide ((k : Int) < (n : Int)) = true := decide_eq_true (by omega)
      have wk : IntKind.i64.wrap ((k : Int) + 1) = (k : Int) + 1 := IntWalk.i64_in _ (by omega)
      by_cases hx : x < 20000
      · have d3 : decide (x < 20000) = true := decide_eq_true hx
        obtain ⟨g, off, rfl, hg, hcell⟩ := HS.out.2 (by omega)
        have x3 := (hcell k hlt).1.c3
        have i1 := sindex g off n c k (k : Int) rfl hlt
        generalize (S.getD k stp0).2.2.2 = t at *
        clear hcell
        have w1 : IntKind.i64.wrap (x + 100) = x + 100 := IntWalk.i64_in _ (by omega)
        rcases Nat.lt_or_ge t.size 9000 with ht | ht
        · have w2 : IntKind.i64.wrap (x + 100 + (t.size : Int)) = x + 100 + (t.size : Int) := IntWalk.i64_in _ (by omega)
          go_wp2
          go_round
          case rel => exact ⟨k + 1, _, by omega, by go_num, rfl, by omega, by omega⟩
          case measure => simp [intOf]; omega
        · have w2 : IntKind.i64.wrap (x + 100 + 9000) = x + 100 + 9000 := IntWalk.i64_in _ (by omega)
          go_wp2
          all_goals (
            go_round
            case rel => exact ⟨k + 1, _, by omega, by go_num, rfl, by omega, by omega⟩
            case measure => simp [intOf]; omega)
      · have d3 : decide (x < 20000) = false := decide_eq_false hx
        have HX : Hid (20000 ≤ x) := by show _ ≤ _; omega
        go_wp2
        go_ret
        exact large_end (x := x) (by rw [decide_eq_true HX.out]) (.inr HX.out)
    · obtain rfl : k = n := by omega
      have d2 : decide ((k : Int) < (k : Int)) = false := decide_eq_false (by omega)
      have HX0 := Lib.hid hx0
      clear hx0
      go_wp2
      go_ret
      exact large_end (x := x) rfl (.inl HX0.out)
end Go.Proofs.Ytbnbhhmgfogjeaa
