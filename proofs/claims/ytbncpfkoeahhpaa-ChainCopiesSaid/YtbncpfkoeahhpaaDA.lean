/- DA, DB, DC in one. -/
import Derived.Test.YtbncpfkoeahhpaaCU
import Derived.Test.YtbncpfkoeahhpaaOA
import Derived.Test.YtbncpfkoeahhpaaJZ0
/- Steps: what they do to an engine; handle, do, long; steps as an argument. -/
namespace Go.Proofs.Ytbncpfkoeahhpaa
open Go.ChangeShapes Go.WideShapes Go.ChangeAt Go.RowKit Go.Maps Go.Deep Go.Joins
set_option linter.unusedVariables false
set_option linter.unusedSimpArgs false

/-- a step: what, the number of a handle, of the one behind it, any handle, a version, a timestamp -/
abbrev Sq := Int × Int × Int × Int × Vn × Int
def sqc (s : Sq) : List Value := [.int .u8 s.1, .int .i64 s.2.1, .int .i64 s.2.2.1, .int .u64 s.2.2.2.1, .int .i64 s.2.2.2.2.1.1, .int .i64 s.2.2.2.2.1.2.1, .bool s.2.2.2.2.1.2.2.1, .string s.2.2.2.2.1.2.2.2, .int .i64 s.2.2.2.2.2]
theorem sqc_len (s : Sq) : (sqc s).length = 9 := rfl
def sq0 : Sq := (0, 0, 0, 0, vn0, 0)
def SqOk (s : Sq) : Prop := (0 ≤ s.1 ∧ s.1 ≤ 255) ∧ (-9223372036854775808 ≤ s.2.1 ∧ s.2.1 ≤ 9223372036854775807) ∧ (-9223372036854775808 ≤ s.2.2.1 ∧ s.2.2.1 ≤ 9223372036854775807) ∧ hR s.2.2.2.1 ∧ VOk s.2.2.2.2.1
/-- the handle that a number names -/
def hOf (y n : Int) (T : List Int) : Int := if n < 0 then y else if n = 0 ∨ T = [] then 0 else T.getD ((n - 1) % (T.length : Int)).toNat 0
theorem hOf_rg {y n : Int} {T : List Int} (hy : hR y) (hT : ∀ x ∈ T, hR x ∧ x ≠ 0) : hR (hOf y n T) := by
  unfold hOf
  split
  · exact hy
  · split
    · exact ⟨Int.le_refl _, by decide⟩
    · by_cases h : ((n - 1) % (T.length : Int)).toNat < T.length
      · exact (hT _ (getD_in h)).1
      · rw [List.getD_eq_getElem?_getD, List.getElem?_eq_none (by omega)]
        exact ⟨Int.le_refl _, by decide⟩
abbrev QS := List Int × AS × (Int → Nd)
/-- what a step tells, and the state behind it -/
def doQ (m : Nat) (s : Sq) (q : QS) : (Int × Int) × AS × (Int → Nd) :=
  if s.1 = 0 then
    if mayV m s.2.2.2.2.1 = true then (((alA (27 + m) q.2.1).2.1, 0), wrA (27 + m) (alA (27 + m) q.2.1).2.1 (encT (s.2.2.2.2.1, hOf s.2.2.2.1 s.2.2.1 q.1)) (alA (27 + m) q.2.1).1, setN q.2.2 (alA (27 + m) q.2.1).2.1 (s.2.2.2.2.1, hOf s.2.2.2.1 s.2.2.1 q.1)) else ((0, 1), q.2.1, q.2.2)
  else if s.1 = 1 then
    if mayV m s.2.2.2.2.1 = true then
      if isA q.2.1 (hOf s.2.2.2.1 s.2.1 q.1) = true then ((0, 0), wrA (27 + m) (hOf s.2.2.2.1 s.2.1 q.1) (encT (s.2.2.2.2.1, (q.2.2 (hOf s.2.2.2.1 s.2.1 q.1)).2)) q.2.1, setN q.2.2 (hOf s.2.2.2.1 s.2.1 q.1) (s.2.2.2.2.1, (q.2.2 (hOf s.2.2.2.1 s.2.1 q.1)).2)) else ((0, 5), q.2.1, q.2.2)
    else ((0, 1), q.2.1, q.2.2)
  else if s.1 = 2 then
    if 1 ≤ s.2.2.2.2.2 ∧ s.2.2.2.2.2 ≤ 1048576 then
      if isA q.2.1 (hOf s.2.2.2.1 s.2.1 q.1) = true then ((0, 0), wrA (27 + m) (hOf s.2.2.2.1 s.2.1 q.1) (encT (((q.2.2 (hOf s.2.2.2.1 s.2.1 q.1)).1.1, s.2.2.2.2.2, (q.2.2 (hOf s.2.2.2.1 s.2.1 q.1)).1.2.2), (q.2.2 (hOf s.2.2.2.1 s.2.1 q.1)).2)) q.2.1, setN q.2.2 (hOf s.2.2.2.1 s.2.1 q.1) (((q.2.2 (hOf s.2.2.2.1 s.2.1 q.1)).1.1, s.2.2.2.2.2, (q.2.2 (hOf s.2.2.2.1 s.2.1 q.1)).1.2.2), (q.2.2 (hOf s.2.2.2.1 s.2.1 q.1)).2)) else ((0, 5), q.2.1, q.2.2)
    else ((0, 1), q.2.1, q.2.2)
  else if s.1 = 3 then
    if isA q.2.1 (hOf s.2.2.2.1 s.2.1 q.1) = true then ((0, 0), wrA (27 + m) (hOf s.2.2.2.1 s.2.1 q.1) (encT ((q.2.2 (hOf s.2.2.2.1 s.2.1 q.1)).1, 0)) q.2.1, setN q.2.2 (hOf s.2.2.2.1 s.2.1 q.1) ((q.2.2 (hOf s.2.2.2.1 s.2.1 q.1)).1, 0)) else ((0, 5), q.2.1, q.2.2)
  else ((0, frAE (hOf s.2.2.2.1 s.2.1 q.1) q.2.1), frA (hOf s.2.2.2.1 s.2.1 q.1) q.2.1, q.2.2)
def tT (T : List Int) (h : Int) : List Int := if h = 0 then T else T ++ [h]
def stQ (m : Nat) (s : Sq) (q : QS) : QS := (tT q.1 (doQ m s q).1.1, (doQ m s q).2)
/-- an engine of a known state: the handles that were told name what was made -/
abbrev CQ_ (W : World) (B q : Nat) (cf : Conf) (a m : Nat) (S : Nat → Prop) (Z : QS) : Prop := CX W B q cf a m Z.2.1 S Z.2.2 Z.1 Z.1.length ∧ ∀ x ∈ Z.1, hR x ∧ x ≠ 0
def XQ (B q : Nat) (cf : Conf) (a m : Nat) (S : Nat → Prop) (Z : QS) (val : Value) (w : World) (e : Ending) (w' : World) : Prop :=
  e = .returned val ∧ ∃ S', CQ_ w' B q cf a m S' Z ∧ (∀ k, S' k → S k ∨ w.heap.size ≤ k) ∧ FrS w w' S
section
variable {B q : Nat} {cf : Conf} {a m : Nat} {S : Nat → Prop} {Z : QS} {w : World}
theorem q_still (h : CQ_ w B q cf a m S Z) {val : Value} {e : Ending} {w' : World} (he : e = .returned val ∧ Below w.heap.size w w') : XQ B q cf a m S Z val w e w' :=
  ⟨he.1, S, ⟨h.1.later he.2, h.2⟩, fun k hk => .inl hk, FrS.of_below he.2⟩
theorem q_write (h : CQ_ w B q cf a m S Z) {val : Value} {e : Ending} {w' : World} {x : Int} (hx : hR x) (n : Nd) (hn : VN m n) (hE : CEnd B q cf a m (wrA (27 + m) x (encT n) Z.2.1) S val w e w') : XQ B q cf a m S (Z.1, wrA (27 + m) x (encT n) Z.2.1, setN Z.2.2 x n) val w e w' := by
  obtain ⟨he, S', h1, h2, h3⟩ := hE
  exact ⟨he, S', ⟨⟨h1, h.1.ci.write h.1.pu hx n hn, by rw [wr_len]; exact h.1.pg⟩, h.2⟩, h2, h3⟩
theorem q_make (h : CQ_ w B q cf a m S Z) (v : Vn) (x : Int) (hs : v.2.2.2.size ≤ maxLen) (hmay : mayV m v = true) (hw : v.1 ≤ 9223372036854775807) (hx : hR x) (hK : Z.1.length < 4000) : Calls Try.prog 8 #[.pointer (some ⟨q, 0, none⟩), .agg #[.int .i64 v.1, .int .i64 v.2.1, .bool v.2.2.1, .string v.2.2.2], .int .u64 x] w (XQ B q cf a m S (tT Z.1 (alA (27 + m) Z.2.1).2.1, wrA (27 + m) (alA (27 + m) Z.2.1).2.1 (encT (v, x)) (alA (27 + m) Z.2.1).1, setN Z.2.2 (alA (27 + m) Z.2.1).2.1 (v, x)) (.tuple #[.int .u64 (alA (27 + m) Z.2.1).2.1, .int .i64 0]) w) := by
  obtain ⟨h, hT⟩ := h
  have hE : (alA (27 + m) Z.2.1).2.2 = 0 := al_ok (by have := h.pg; omega)
  have hu := h.pu
  have hm := h.cr.m256
  have hvn : VN m (v, x) := mayV_VN hmay hw hx
  have hsz : (encT (v, x)).size ≤ 27 + m := by rw [encT_size]; have := hvn.2.2.1; simp only at this ⊢; omega
  have hi : isA (alA (27 + m) Z.2.1).1 (alA (27 + m) Z.2.1).2.1 = true := by
    rcases alA_cases (s := 27 + m) (by omega) (by omega) hu.1 hu.2.2.1 hu.2.2.2 with e | ⟨l, L, e, el, h5, h6, h7, h8, h9⟩
    · rw [e] at hE; cases hE
    · rw [e]; exact ((put_step h.ci.ti (by omega) hu h5 h6 h7 h8 h9).new rfl).2.2
  refine (chmake_yes B q cf a m Z.2.1 S w h.cr v.1 v.2.1 v.2.2.1 v.2.2.2 x hs hmay hw hx (by have := h.ci.ti.glen; omega) hE (alA_rg (by omega) (by omega) hu) (by unfold wrAE; rw [if_pos hi, if_pos hsz])).mono ?_
  rintro e w' ⟨⟨he, S', h1, h2, h3⟩, hu1⟩
  have hk := h.ci.make (by omega) hu hm _ hvn hE hu1
  have ht : tT Z.1 (alA (27 + m) Z.2.1).2.1 = Z.1 ++ [(alA (27 + m) Z.2.1).2.1] := by unfold tT; rw [if_neg hk.ne]
  rw [ht]
  refine ⟨he, S', ⟨⟨h1, by rw [List.length_append]; exact hk.ci, ?_⟩, fun y hy => ?_⟩, h2, h3⟩
  · rw [wr_len, List.length_append]
    have := al_len (s := 27 + m) (st := Z.2.1)
    have := h.pg
    show _ ≤ _ + 1
    omega
  · rcases List.mem_append.1 hy with e | e
    · exact hT y e
    · rw [List.mem_singleton.1 e]
      exact ⟨hk.rg, hk.ne⟩
end
theorem list9 {α : Type} {l : List α} (h : l.length = 9) : ∃ a b c d e f g i j, l = [a, b, c, d, e, f, g, i, j] := by
  match l, h with
  | [a, b, c, d, e, f, g, i, j], _ => exact ⟨a, b, c, d, e, f, g, i, j, rfl⟩
theorem rg8 {n : Int} (h : (Lit.int .u8 n).wf = true) : 0 ≤ n ∧ n ≤ 255 := by
  simp only [Lit.wf, Bool.and_eq_true, decide_eq_true_eq] at h
  exact ⟨h.1, h.2⟩
theorem cls5 : Try.prog.cellsOf 5 = 1 := by kernel_rfl
theorem cls23 : Try.prog.cellsOf 23 = 1 := by kernel_rfl
theorem cls60 : Try.prog.cellsOf 60 = 9 := by kernel_rfl
section
variable {H : Type} {enc : TypeId × Value → H} {W : World}
theorem sq_read {base : Nat} {spare : Nat → Bool} {held : Bool} {fuel : Nat} {cs : List Value} {x : DataW H × List MemPlace} (h : DataW.trod enc Try.prog W base spare held fuel 60 cs = some x) : ∃ s : Sq, cs = sqc s ∧ SqOk s := by
  obtain ⟨xs, n, _, hx, hl, hlen, hg⟩ := DataW.trod_struct Try.underlying60 h
  obtain ⟨c0, c1, c2, c3, c4, c5, c6, c7, c8, rfl⟩ := list9 (hl.trans cls60)
  match xs, hlen with
  | [y0, y1, y2, y3, y4, y5], _ =>
    obtain ⟨a, e0, _, w0⟩ := DataW.trod_int Try.underlying5 (show DataW.trod enc Try.prog W base spare held n 5 [c0] = some y0 from by simpa [cls5] using hg 0 _ rfl)
    obtain ⟨b, e1, _, w1⟩ := DataW.trod_int Try.underlying3 (show DataW.trod enc Try.prog W base spare held n 3 [c1] = some y1 from by simpa [cls3] using hg 1 _ rfl)
    obtain ⟨c, e2, _, w2⟩ := DataW.trod_int Try.underlying3 (show DataW.trod enc Try.prog W base spare held n 3 [c2] = some y2 from by simpa [cls3] using hg 2 _ rfl)
    obtain ⟨d, e3, _, w3⟩ := DataW.trod_int Try.underlying23 (show DataW.trod enc Try.prog W base spare held n 23 [c3] = some y3 from by simpa [cls23] using hg 3 _ rfl)
    obtain ⟨v, e4, w4⟩ := vn_read (show DataW.trod enc Try.prog W base spare held n 29 [c4, c5, c6, c7] = some y4 from by simpa [cls29] using hg 4 _ rfl)
    obtain ⟨f, e5, _, w5⟩ := DataW.trod_int Try.underlying3 (show DataW.trod enc Try.prog W base spare held n 3 [c8] = some y5 from by simpa [cls3] using hg 5 _ rfl)
    obtain ⟨v0, v1, v2, v3⟩ := v
    simp [vec] at e0 e1 e2 e3 e4 e5
    obtain ⟨rfl, rfl, rfl, rfl⟩ := e4
    subst e0 e1 e2 e3 e5
    exact ⟨(a, b, c, d, (v0, v1, v2, v3), f), rfl, rg8 w0, rgI w1, rgI w2, rgU w3, w4⟩
set_option maxRecDepth 100000 in
theorem open_sqs {base : Nat} {v : Value} {d : DataW H} {ps : List MemPlace} (hval : Value.okWide Try.prog W .any base 57 v) (h : DataW.Trod enc Try.prog W 0 (fun _ => true) true 57 v d ps) :
    ∃ A n c L, v = .slice A n c ∧ RSl sqc 9 W A n L ∧ (∀ r ∈ L, SqOk r) ∧ n ≤ maxLen := by
  obtain ⟨A, n, c, rfl⟩ := okWide_slice Try.underlying57 hval
  obtain ⟨fuel, hf⟩ := h
  obtain ⟨A', n', c', L, e, hr, hq, h1, h2, h3⟩ := open_row (cenc := sqc) (Q := SqOk) Try.underlying57 cls60 (by decide) sqc_len sq_read hf
  simp [Value.cells] at e
  obtain ⟨rfl, rfl, rfl⟩ := e
  exact ⟨A, n, c, L, rfl, hr, hq, h1⟩
end
theorem index57 (g off m c k : Nat) (i : Int) (hi : i = (k : Int)) (h : k < m) (W : World) : (Instr.indexAt 57 (.slice (some ⟨g, off, none⟩) m c) (.int .i64 i)).run Try.prog W = .ok (.pointer (some ⟨g, off + k * 9, none⟩)) W := by
  subst hi
  have h1 : (0 : Int) ≤ (k : Int) ∧ (k : Int) < (m : Int) := by omega
  go_simp
theorem sq_at {W : World} {A : Option Addr} {n k : Nat} {L : List Sq} (h : RSl sqc 9 W A n L) (hk : k < n) : ∃ g off, A = some ⟨g, off, none⟩ ∧ L.getD k sq0 ∈ L ∧ ∀ i v, (sqc (L.getD k sq0))[i]? = some v → W.cell? ⟨g, off + k * 9 + i, none⟩ = some v := by
  obtain ⟨g, off, hA, hg, hc⟩ := h.2 (by omega)
  have hl : k < L.length := by rw [h.1]; exact hk
  have hx : L[k]? = some (L.getD k sq0) := by
    rw [List.getElem?_eq_getElem hl, List.getD_eq_getElem?_getD, List.getElem?_eq_getElem hl]; rfl
  refine ⟨g, off, hA, ?_, fun i v hi => ?_⟩
  · rw [List.getD_eq_getElem?_getD, List.getElem?_eq_getElem hl]; exact List.getElem_mem hl
  · have hi9 : i < 9 := by
      have := (List.getElem?_eq_some_iff.1 hi).1
      rw [sqc_len] at this
      exact this
    rw [hc k _ hx i hi9, hi]
def LongE (w : World) (e : Ending) (w' : World) : Prop := ∃ r : Bool, e = .returned (.bool r) ∧ Below w.heap.size w w'
set_option maxRecDepth 100000 in
set_option maxHeartbeats 4000000 in
theorem long_any (A : Option Addr) (n c : Nat) (L : List Sq) (w : World) (hS : RSl sqc 9 w A n L) (hn : n ≤ maxLen) : Calls Try.prog 24 #[.slice A n c] w (LongE w) := by
  have HS := Lib.hid hS
  unfold maxLen at hn
  clear hS
  go_enter Try.func24, Try.ntmps24
  go_wp2
  go_loopw [3, 4] (fun s i W => ∃ (k : Nat) (z : Int), k ≤ n ∧ i = .int .i64 k ∧ s = .int .i64 z ∧ Below w.heap.size w W) (fun _ i _ => n - (intOf i).toNat)
  case atStart => exact ⟨0, 0, Nat.zero_le _, rfl, rfl, Below.refl _ _⟩
  case round =>
    obtain ⟨k, z, hk, rfl, rfl, hb⟩ := hrel
    have HBW := Lib.hid hb
    clear hb
    by_cases hlt : k < n
    · have d2 : decide ((k : Int) < (n : Int)) = true := decide_eq_true (by omega)
      by_cases hzl : z < 20000
      · have d3 : decide (z < 20000) = true := decide_eq_true hzl
        obtain ⟨g, off, rfl, hmem, hc⟩ := sq_at (HS.out.later HBW.out) hlt
        have hx1 := index57 g off n c k (k : Int) rfl hlt
        have a7 := hc 7 _ rfl
        generalize (L.getD k sq0) = s at *
        obtain ⟨s0, s1, s2, s3, ⟨v0, v1, v2, v3⟩, s5⟩ := s
        simp only at a7
        have w3 : IntKind.i64.wrap ((k : Int) + 1) = (k : Int) + 1 := IntWalk.i64_in _ (by omega)
        clear hc hmem
        go_wp2
        go_roundw
        case rel => exact ⟨k + 1, _, by omega, by go_num, rfl, HBW.out⟩
        case measure => simp [intOf]; omega
      · have d3 : decide (z < 20000) = false := decide_eq_false hzl
        have d4 : decide ((20000 : Int) ≤ z) = true := decide_eq_true (by omega)
        go_wp2
        go_ret
        exact ⟨true, rfl, HBW.out⟩
    · obtain rfl : k = n := by omega
      have d2 : decide ((k : Int) < (k : Int)) = false := decide_eq_false (by omega)
      obtain ⟨r, hr⟩ : ∃ r, decide ((20000 : Int) ≤ z) = r := ⟨_, rfl⟩
      go_wp2
      go_ret
      exact ⟨_, rfl, HBW.out⟩
set_option maxRecDepth 100000 in
set_option maxHeartbeats 4000000 in
theorem handle_any (s : Sq) (n : Int) (T : List Int) (B : Nat) (v : Value) (w : World) (hu : Ow hv w B 24 v T.length T) (hl : T.length ≤ 100000) (hn : -9223372036854775808 ≤ n ∧ n ≤ 9223372036854775807) : Calls Try.prog 43 #[.agg (sqc s).toArray, .int .i64 n, v] w fun e w' => e = .returned (.int .u64 (hOf s.2.2.2.1 n T)) ∧ Below w.heap.size w w' := by
  obtain ⟨k, h, nx, y, ⟨vw, vt, vb, vs⟩, ts⟩ := s
  have HB : Hid (Below w.heap.size w (w.alloc (.cells #[.int .u8 k, .int .i64 h, .int .i64 nx, .int .u64 y, .int .i64 vw, .int .i64 vt, .bool vb, .string vs, .int .i64 ts] 60))) := (Below.refl _ _).alloc (Nat.le_refl _) _
  have HU := Lib.hid (Ow.later hu HB.out)
  show Calls Try.prog 43 #[.agg #[.int .u8 k, .int .i64 h, .int .i64 nx, .int .u64 y, .int .i64 vw, .int .i64 vt, .bool vb, .string vs, .int .i64 ts], .int .i64 n, v] w _
  show Calls _ _ _ _ fun e w' => e = .returned (.int .u64 (hOf y n T)) ∧ _
  obtain ⟨AV, cV, rfl, _⟩ := Ow.sl hu
  clear hu
  unfold hOf
  by_cases h1 : n < 0
  · have d1 : decide (n < 0) = true := decide_eq_true h1
    rw [if_pos h1]
    clear h1
    go_enter Try.func43, Try.ntmps43
    go_wp2
    go_ret
    exact ⟨rfl, HB.out⟩
  · have d1 : decide (n < 0) = false := decide_eq_false h1
    rw [if_neg h1]
    by_cases h2 : n = 0
    · have e2 : (n == 0) = true := by rw [beq_iff_eq]; exact h2
      rw [if_pos (.inl h2)]
      clear h1 h2
      go_enter Try.func43, Try.ntmps43
      go_wp2
      go_ret
      exact ⟨rfl, HB.out⟩
    · have e2 : (n == 0) = false := by rw [beq_eq_false_iff_ne]; exact h2
      by_cases h3 : T = []
      · subst h3
        rw [if_pos (.inr rfl)]
        clear h1 h2
        go_enter Try.func43, Try.ntmps43
        go_wp2
        go_ret
        exact ⟨rfl, HB.out⟩
      · rw [if_neg (by simp [h2, h3])]
        have hpos : 0 < T.length := List.length_pos_iff.2 h3
        obtain ⟨j, hj⟩ : ∃ j : Nat, ((n - 1) % (T.length : Int)).toNat = j := ⟨_, rfl⟩
        have hjl : j < T.length := by
          have h5 := Int.emod_lt_of_pos (n - 1) (show (0 : Int) < T.length by omega)
          have h4 := Int.emod_nonneg (n - 1) (show (T.length : Int) ≠ 0 by omega)
          omega
        have hje : (n - 1) % (T.length : Int) = (j : Int) := by
          have h4 := Int.emod_nonneg (n - 1) (show (T.length : Int) ≠ 0 by omega)
          omega
        rw [hj]
        obtain ⟨g, c, e9⟩ := own0 HU.out hpos
        cases e9
        have hcx := own_at HU.out hjl
        have hlen2 : ((T.length : Int) == 0) = false := by rw [beq_eq_false_iff_ne]; omega
        have wm : IntKind.i64.wrap (n - 1) = n - 1 := IntWalk.i64_in _ (by omega)
        have wt : Int.tmod (n - 1) (T.length : Int) = (j : Int) := by rw [Int.tmod_eq_emod_of_nonneg (by omega)]; exact hje
        have wj2 : IntKind.i64.wrap (j : Int) = (j : Int) := IntWalk.i64_in _ (by omega)
        have i5 := idx48 g T.length cV j (j : Int) rfl hjl
        have hUN : ¬ (T.length : Int) = 0 := by omega
        have hUN2 : ¬ T.length = 0 := by omega
        have hlen : (T.length == 0) = false := by rw [beq_eq_false_iff_ne]; omega
        generalize T.getD j 0 = z at *
        clear hj h2 h1
        go_enter Try.func43, Try.ntmps43
        go_wp2
        go_ret
        exact ⟨rfl, HB.out⟩
end Go.Proofs.Ytbncpfkoeahhpaa

/- A step is done. -/
namespace Go.Proofs.Ytbncpfkoeahhpaa
open Go.ChangeShapes Go.WideShapes Go.ChangeAt Go.RowKit Go.Maps Go.Deep Go.Joins
set_option linter.unusedVariables false
set_option linter.unusedSimpArgs false

abbrev SB9 (p : Nat) (k h nx y vw vt : Int) (vb : Bool) (vs : ByteArray) (ts : Int) (W : World) : Prop := W.cell? ⟨p, 0, none⟩ = some (.int .u8 k) ∧ W.cell? ⟨p, 1, none⟩ = some (.int .i64 h) ∧ W.cell? ⟨p, 2, none⟩ = some (.int .i64 nx) ∧ W.cell? ⟨p, 3, none⟩ = some (.int .u64 y) ∧ W.cell? ⟨p, 4, none⟩ = some (.int .i64 vw) ∧ W.cell? ⟨p, 5, none⟩ = some (.int .i64 vt) ∧ W.cell? ⟨p, 6, none⟩ = some (.bool vb) ∧ W.cell? ⟨p, 7, none⟩ = some (.string vs) ∧ W.cell? ⟨p, 8, none⟩ = some (.int .i64 ts)
theorem sb9 {p : Nat} {k h nx y vw vt : Int} {vb : Bool} {vs : ByteArray} {ts : Int} {W : World} (H : Blk W p #[.int .u8 k, .int .i64 h, .int .i64 nx, .int .u64 y, .int .i64 vw, .int .i64 vt, .bool vb, .string vs, .int .i64 ts] 60) : SB9 p k h nx y vw vt vb vs ts W := ⟨H.cell 0, H.cell 1, H.cell 2, H.cell 3, H.cell 4, H.cell 5, H.cell 6, H.cell 7, H.cell 8⟩
theorem q_base {w w2 : World} (h : Hid (Below w.heap.size w w2)) {B q : Nat} {cf : Conf} {a m : Nat} {S : Nat → Prop} {Z : QS} {val : Value} {e : Ending} {w3 : World} (hx : XQ B q cf a m S Z val w2 e w3) : XQ B q cf a m S Z val w e w3 := by
  obtain ⟨he, S', h1, h2, h3⟩ := hx
  exact ⟨he, S', h1, fun k hk => (h2 k hk).imp id (fun e => Nat.le_trans h.out.size e), (FrS.of_below h.out).trans h3 (fun i hi => .inl hi)⟩
section
variable {B q : Nat} {cf : Conf} {a m : Nat} {S : Nat → Prop} {Z : QS} {W : World} {s : Sq}
theorem dq_h0 (h : s.1 ≠ 0) : (doQ m s Z).1.1 = 0 := by
  unfold doQ
  rw [if_neg h]
  repeat' split
  all_goals rfl
theorem st_nil {T : List Int} : tT T 0 = T := by unfold tT; rw [if_pos rfl]
theorem dq_make (h : CQ_ W B q cf a m S Z) (hs : SqOk s) (h0 : s.1 = 0) (hl : Z.1.length ≤ 1000) : Calls Try.prog 8 #[.pointer (some ⟨q, 0, none⟩), .agg #[.int .i64 s.2.2.2.2.1.1, .int .i64 s.2.2.2.2.1.2.1, .bool s.2.2.2.2.1.2.2.1, .string s.2.2.2.2.1.2.2.2], .int .u64 (hOf s.2.2.2.1 s.2.2.1 Z.1)] W (XQ B q cf a m S (stQ m s Z) (.tuple #[.int .u64 (doQ m s Z).1.1, .int .i64 (doQ m s Z).1.2]) W) := by
  obtain ⟨_, _, _, hy, hvo⟩ := hs
  have hx := hOf_rg (n := s.2.2.1) hy h.2
  unfold stQ doQ
  rw [if_pos h0]
  by_cases hm : mayV m s.2.2.2.2.1 = true
  · rw [if_pos hm]
    exact q_make h s.2.2.2.2.1 _ hvo.2.2 hm hvo.1.2 hx (by omega)
  · rw [if_neg hm]
    have hm : mayV m s.2.2.2.2.1 = false := by simpa using hm
    refine (chmake_no B q cf a m Z.2.1 S W h.1.cr s.2.2.2.2.1.1 s.2.2.2.2.1.2.1 s.2.2.2.2.1.2.2.1 s.2.2.2.2.1.2.2.2 _ hvo.2.2 hm).mono fun e w' he => ?_
    simp only [st_nil]
    exact q_still h he
theorem dq_change (h : CQ_ W B q cf a m S Z) (hs : SqOk s) (h0 : s.1 = 1) : Calls Try.prog 11 #[.pointer (some ⟨q, 0, none⟩), .int .u64 (hOf s.2.2.2.1 s.2.1 Z.1), .agg #[.int .i64 s.2.2.2.2.1.1, .int .i64 s.2.2.2.2.1.2.1, .bool s.2.2.2.2.1.2.2.1, .string s.2.2.2.2.1.2.2.2]] W (XQ B q cf a m S (stQ m s Z) (.int .i64 (doQ m s Z).1.2) W) := by
  obtain ⟨_, _, _, hy, hvo⟩ := hs
  have hx := hOf_rg (n := s.2.1) hy h.2
  unfold stQ doQ
  rw [if_neg (by omega), if_pos h0]
  generalize hOf s.2.2.2.1 s.2.1 Z.1 = x at *
  by_cases hm : mayV m s.2.2.2.2.1 = true
  · rw [if_pos hm]
    by_cases hi : isA Z.2.1 x = true
    · rw [if_pos hi]
      refine (chchange_yes B q cf a m Z.2.1 S Z.2.2 Z.1 _ W h.1.cr h.1.ci x hx s.2.2.2.2.1.1 s.2.2.2.2.1.2.1 s.2.2.2.2.1.2.2.1 s.2.2.2.2.1.2.2.2 hvo.2.2 hm hvo.1.2 hi).mono fun e w' he => ?_
      simp only [st_nil]
      have hv := (h.1.ci.val x hx hi).1
      exact q_write h hx _ (mayV_VN hm hvo.1.2 hv.2.2.2.2) he
    · rw [if_neg hi]
      refine (chchange_no B q cf a m Z.2.1 S Z.2.2 Z.1 _ W h.1.cr h.1.ci x hx s.2.2.2.2.1.1 s.2.2.2.2.1.2.1 s.2.2.2.2.1.2.2.1 s.2.2.2.2.1.2.2.2 hvo.2.2 hm (by simpa using hi)).mono fun e w' he => ?_
      simp only [st_nil]
      exact q_still h he
  · rw [if_neg hm]
    refine (chchange_bad B q cf a m Z.2.1 S W h.1.cr x s.2.2.2.2.1.1 s.2.2.2.2.1.2.1 s.2.2.2.2.1.2.2.1 s.2.2.2.2.1.2.2.2 hvo.2.2 (by simpa using hm)).mono fun e w' he => ?_
    simp only [st_nil]
    exact q_still h he
theorem dq_stamp (h : CQ_ W B q cf a m S Z) (hs : SqOk s) (h0 : s.1 = 2) : Calls Try.prog 12 #[.pointer (some ⟨q, 0, none⟩), .int .u64 (hOf s.2.2.2.1 s.2.1 Z.1), .int .i64 s.2.2.2.2.2] W (XQ B q cf a m S (stQ m s Z) (.int .i64 (doQ m s Z).1.2) W) := by
  obtain ⟨_, _, _, hy, hvo⟩ := hs
  have hx := hOf_rg (n := s.2.1) hy h.2
  unfold stQ doQ
  rw [if_neg (by omega), if_neg (by omega), if_pos h0]
  generalize hOf s.2.2.2.1 s.2.1 Z.1 = x at *
  by_cases hm : 1 ≤ s.2.2.2.2.2 ∧ s.2.2.2.2.2 ≤ 1048576
  · rw [if_pos hm]
    by_cases hi : isA Z.2.1 x = true
    · rw [if_pos hi]
      refine (stamp_yes B q cf a m Z.2.1 S Z.2.2 Z.1 _ W h.1.cr h.1.ci x hx hi s.2.2.2.2.2 hm).mono fun e w' he => ?_
      simp only [st_nil]
      have hv := (h.1.ci.val x hx hi).1
      exact q_write h hx _ ⟨hv.1, ⟨by simp only; omega, by simp only; omega⟩, hv.2.2⟩ he
    · rw [if_neg hi]
      refine (stamp_no B q cf a m Z.2.1 S Z.2.2 Z.1 _ W h.1.cr h.1.ci x hx (by simpa using hi) s.2.2.2.2.2 hm).mono fun e w' he => ?_
      simp only [st_nil]
      exact q_still h he
  · rw [if_neg hm]
    refine (stamp_bad q x s.2.2.2.2.2 W (by omega)).mono fun e w' he => ?_
    simp only [st_nil]
    exact q_still h he
theorem dq_cut (h : CQ_ W B q cf a m S Z) (hs : SqOk s) (h0 : s.1 = 3) : Calls Try.prog 13 #[.pointer (some ⟨q, 0, none⟩), .int .u64 (hOf s.2.2.2.1 s.2.1 Z.1)] W (XQ B q cf a m S (stQ m s Z) (.int .i64 (doQ m s Z).1.2) W) := by
  obtain ⟨_, _, _, hy, hvo⟩ := hs
  have hx := hOf_rg (n := s.2.1) hy h.2
  unfold stQ doQ
  rw [if_neg (by omega), if_neg (by omega), if_neg (by omega), if_pos h0]
  generalize hOf s.2.2.2.1 s.2.1 Z.1 = x at *
  by_cases hi : isA Z.2.1 x = true
  · rw [if_pos hi]
    refine (cut_yes B q cf a m Z.2.1 S Z.2.2 Z.1 _ W h.1.cr h.1.ci x hx hi).mono fun e w' he => ?_
    simp only [st_nil]
    have hv := (h.1.ci.val x hx hi).1
    exact q_write h hx _ ⟨hv.1, hv.2.1, hv.2.2.1, hv.2.2.2.1, by simp⟩ he
  · rw [if_neg hi]
    refine (cut_no B q cf a m Z.2.1 S Z.2.2 Z.1 _ W h.1.cr h.1.ci x hx (by simpa using hi)).mono fun e w' he => ?_
    simp only [st_nil]
    exact q_still h he
theorem dq_free (h : CQ_ W B q cf a m S Z) (hs : SqOk s) (h0 : s.1 ≠ 0 ∧ s.1 ≠ 1 ∧ s.1 ≠ 2 ∧ s.1 ≠ 3) : Calls Try.prog 14 #[.pointer (some ⟨q, 0, none⟩), .int .u64 (hOf s.2.2.2.1 s.2.1 Z.1)] W (XQ B q cf a m S (stQ m s Z) (.int .i64 (doQ m s Z).1.2) W) := by
  obtain ⟨_, _, _, hy, hvo⟩ := hs
  have hx := hOf_rg (n := s.2.1) hy h.2
  unfold stQ doQ
  rw [if_neg h0.1, if_neg h0.2.1, if_neg h0.2.2.1, if_neg h0.2.2.2]
  generalize hOf s.2.2.2.1 s.2.1 Z.1 = x at *
  refine (chfree_any B q cf a m Z.2.1 S W h.1.cr x hx).mono ?_
  rintro e w' ⟨he, S', h1, h2, h3⟩
  simp only [st_nil]
  exact ⟨he, S', ⟨⟨h1, h.1.ci.free h.1.pu hx, by rw [fr_len]; exact h.1.pg⟩, h.2⟩, h2, h3⟩
end
set_option maxRecDepth 100000 in
set_option maxHeartbeats 8000000 in
theorem do_any (s : Sq) (B q : Nat) (cf : Conf) (a m : Nat) (S : Nat → Prop) (Z : QS) (B2 : Nat) (v : Value) (w : World) (h : CQ_ w B q cf a m S Z) (hs : SqOk s) (hu : Ow hv w B2 24 v Z.1.length Z.1) (hl : Z.1.length ≤ 1000) : Calls Try.prog 25 #[.agg (sqc s).toArray, .pointer (some ⟨q, 0, none⟩), v] w (XQ B q cf a m S (stQ m s Z) (.tuple #[.int .u64 (doQ m s Z).1.1, .int .i64 (doQ m s Z).1.2]) w) := by
  obtain ⟨k, h_, nx, y, ⟨vw, vt, vb, vs⟩, ts⟩ := s
  obtain ⟨⟨hk0, hk1⟩, hh, hn, hy, hvo⟩ := hs
  simp only at hk0 hk1 hh hn hy hvo
  have hb1 : Below w.heap.size w (w.alloc (.cells #[.int .u8 k, .int .i64 h_, .int .i64 nx, .int .u64 y, .int .i64 vw, .int .i64 vt, .bool vb, .string vs, .int .i64 ts] 60)) := (Below.refl _ _).alloc (Nat.le_refl _) _
  have HCQ : Hid (CQ_ (w.alloc (.cells #[.int .u8 k, .int .i64 h_, .int .i64 nx, .int .u64 y, .int .i64 vw, .int .i64 vt, .bool vb, .string vs, .int .i64 ts] 60)) B q cf a m S Z) := ⟨h.1.later hb1, h.2⟩
  have HOU := Lib.hid (Ow.later hu hb1)
  have HK : Hid (Blk (w.alloc (.cells #[.int .u8 k, .int .i64 h_, .int .i64 nx, .int .u64 y, .int .i64 vw, .int .i64 vt, .bool vb, .string vs, .int .i64 ts] 60)) w.heap.size #[.int .u8 k, .int .i64 h_, .int .i64 nx, .int .u64 y, .int .i64 vw, .int .i64 vt, .bool vb, .string vs, .int .i64 ts] 60) := Blk.new _ _ _
  have HB1 := Lib.hid hb1
  have HH := Lib.hid hh
  have HN := Lib.hid hn
  have HY := Lib.hid hy
  have HVO := Lib.hid hvo
  have HT := Lib.hid h.2
  obtain ⟨AV, cV, rfl, _⟩ := Ow.sl hu
  show Calls Try.prog 25 #[.agg #[.int .u8 k, .int .i64 h_, .int .i64 nx, .int .u64 y, .int .i64 vw, .int .i64 vt, .bool vb, .string vs, .int .i64 ts], .pointer (some ⟨q, 0, none⟩), .slice AV Z.1.length cV] w _
  clear h hu hb1 hh hn hy hvo
  go_enter Try.func25, Try.ntmps25
  go_upto_region 1 with (fail)
  generalize w.alloc (.cells #[.int .u8 k, .int .i64 h_, .int .i64 nx, .int .u64 y, .int .i64 vw, .int .i64 vt, .bool vb, .string vs, .int .i64 ts] 60) = w1 at *
  obtain ⟨p, hp⟩ : ∃ p, w.heap.size = p := ⟨_, rfl⟩
  rw [hp] at HK ⊢
  have c0 := HK.out.cell 0
  have c1 := HK.out.cell 1
  have c2 := HK.out.cell 2
  have c3 := HK.out.cell 3
  have c4 := HK.out.cell 4
  have c5 := HK.out.cell 5
  have c6 := HK.out.cell 6
  have c7 := HK.out.cell 7
  have c8 := HK.out.cell 8
  simp only [List.getElem?_toArray, List.getElem?_cons_zero, List.getElem?_cons_succ] at c0 c1 c2 c3 c4 c5 c6 c7 c8
  go_wp2_with fail
  refine (show Calls Try.prog 43 #[.agg #[.int .u8 k, .int .i64 h_, .int .i64 nx, .int .u64 y, .int .i64 vw, .int .i64 vt, .bool vb, .string vs, .int .i64 ts], .int .i64 h_, .slice AV Z.1.length cV] w1 (fun e w' => e = .returned (.int .u64 (hOf y h_ Z.1)) ∧ Below w1.heap.size w1 w') from handle_any (k, h_, nx, y, (vw, vt, vb, vs), ts) h_ Z.1 B2 _ w1 HOU.out (by omega) HH.out).mono ?_
  rintro e w2 ⟨rfl, hb⟩
  obtain ⟨X, hX⟩ : ∃ X, hOf y h_ Z.1 = X := ⟨_, rfl⟩
  rw [hX]
  have HX := Lib.hid hX
  replace HCQ : Hid (CQ_ w2 B q cf a m S Z) := ⟨HCQ.out.1.later hb, HT.out⟩
  replace HOU := Lib.hid (Ow.later HOU.out hb)
  replace HK := Lib.hid (HK.out.later hb)
  have HB2 := Lib.hid (stepB HB1.out hb)
  clear hb HB1 c0 c1 c2 c3 c4 c5 c6 c7 c8 hX hp
  have HSO : Hid (SqOk (k, h_, nx, y, (vw, vt, vb, vs), ts)) := ⟨⟨hk0, hk1⟩, HH.out, HN.out, HY.out, HVO.out⟩
  by_cases k0 : k = 0
  · subst k0
    obtain ⟨X2, hX2⟩ : ∃ X, hOf y nx Z.1 = X := ⟨_, rfl⟩
    have PB : Hid (∀ W, Below w2.heap.size w2 W → CQ_ W B q cf a m S Z ∧ Ow hv W B2 24 (.slice AV Z.1.length cV) Z.1.length Z.1) := Lib.hid (fun W hb => ⟨⟨HCQ.out.1.later hb, HT.out⟩, Ow.later HOU.out hb⟩)
    have HC43 : Hid (∀ W, Below w2.heap.size w2 W → Calls Try.prog 43 #[.agg #[.int .u8 0, .int .i64 h_, .int .i64 nx, .int .u64 y, .int .i64 vw, .int .i64 vt, .bool vb, .string vs, .int .i64 ts], .int .i64 nx, .slice AV Z.1.length cV] W fun e w' => e = .returned (.int .u64 X2) ∧ Below W.heap.size W w') := Lib.hid (fun W hb => by
      have h := handle_any (0, h_, nx, y, (vw, vt, vb, vs), ts) nx Z.1 B2 _ W (PB.out W hb).2 (by omega) HN.out
      rw [show hOf (0, h_, nx, y, (vw, vt, vb, vs), ts).2.2.2.1 nx Z.1 = X2 from hX2] at h
      exact h)
    have HC8 : Hid (∀ W, Below w2.heap.size w2 W → Calls Try.prog 8 #[.pointer (some ⟨q, 0, none⟩), .agg #[.int .i64 vw, .int .i64 vt, .bool vb, .string vs], .int .u64 X2] W (XQ B q cf a m S (stQ m (0, h_, nx, y, (vw, vt, vb, vs), ts) Z) (.tuple #[.int .u64 (doQ m (0, h_, nx, y, (vw, vt, vb, vs), ts) Z).1.1, .int .i64 (doQ m (0, h_, nx, y, (vw, vt, vb, vs), ts) Z).1.2]) W)) := Lib.hid (fun W hb => by
      have h := dq_make (s := (0, h_, nx, y, (vw, vt, vb, vs), ts)) (PB.out W hb).1 HSO.out rfl hl
      rw [show hOf (0, h_, nx, y, (vw, vt, vb, vs), ts).2.2.2.1 (0, h_, nx, y, (vw, vt, vb, vs), ts).2.2.1 Z.1 = X2 from hX2] at h
      exact h)
    have KS : Hid (∀ W, Below w2.heap.size w2 W → SB9 p 0 h_ nx y vw vt vb vs ts W) := Lib.hid (fun W hb => sb9 (HK.out.later hb))
    have K0 := Lib.hid (KS.out w2 (Below.refl _ _))
    have hbr := Below.refl w2.heap.size w2
    clear hX2 HX
    have c0 := HK.out.cell 0
    have c1 := HK.out.cell 1
    have c2 := HK.out.cell 2
    have c3 := HK.out.cell 3
    have c4 := HK.out.cell 4
    have c5 := HK.out.cell 5
    have c6 := HK.out.cell 6
    have c7 := HK.out.cell 7
    have c8 := HK.out.cell 8
    simp only [List.getElem?_toArray, List.getElem?_cons_zero, List.getElem?_cons_succ] at c0 c1 c2 c3 c4 c5 c6 c7 c8
    go_upto_region 4 with (fail)
    clear c0 c1 c2 c3 c4 c5 c6 c7 c8
    go_region_held3 (SB9 p 0 h_ nx y vw vt vb vs ts) (first | assumption | exact K0.out | exact KS.out _ (by assumption) | exact KS.out _ (below_drewN (Below.refl _ _) _) | exact sb9 (by assumption)) (first
      | (go_at_call 43; refine (HC43.out _ (by first | assumption | exact Below.drew (Below.refl _ _) | exact below_drewN (Below.refl _ _) _)).mono ?_; rintro x wz ⟨rfl, hbz⟩; have hb9 : Below w2.heap.size w2 wz := stepB (by first | assumption | exact Below.drew (Below.refl _ _) | exact below_drewN (Below.refl _ _) _) hbz)
      | (go_at_call 8; refine (HC8.out _ (by assumption)).mono ?_; rintro x wy hx3; have HE := Lib.hid (q_base (Lib.hid (stepB HB2.out hb9)) hx3); obtain ⟨rfl, S3, _, _, hf3⟩ := hx3; have hk9 := (PB.out _ hb9).1.1.cr.ar.blk hf3 (HK.out.later hb9) (by decide)))
    all_goals (
      go_wp2_with fail
      go_ret2
      exact HE.out)
  · have HD : Hid ((doQ m (k, h_, nx, y, (vw, vt, vb, vs), ts) Z).1.1 = 0) := Lib.hid (dq_h0 k0)
    have e0 : (k == 0) = false := by rw [beq_eq_false_iff_ne]; exact k0
    by_cases k1 : k = 1
    · subst k1
      have HC := Lib.hid (dq_change HCQ.out HSO.out rfl)
      rw [show hOf (1, h_, nx, y, (vw, vt, vb, vs), ts).2.2.2.1 (1, h_, nx, y, (vw, vt, vb, vs), ts).2.1 Z.1 = X from HX.out] at HC
      have c0 := HK.out.cell 0
      have c1 := HK.out.cell 1
      have c2 := HK.out.cell 2
      have c3 := HK.out.cell 3
      have c4 := HK.out.cell 4
      have c5 := HK.out.cell 5
      have c6 := HK.out.cell 6
      have c7 := HK.out.cell 7
      have c8 := HK.out.cell 8
      simp only [List.getElem?_toArray, List.getElem?_cons_zero, List.getElem?_cons_succ] at c0 c1 c2 c3 c4 c5 c6 c7 c8
      go_wp2_with fail
      refine HC.out.mono ?_
      rintro e w3 hx3
      have HE := Lib.hid (q_base HB2 hx3)
      obtain ⟨rfl, _⟩ := hx3
      clear HC c0 c1 c2 c3 c4 c5 c6 c7 c8
      go_wp2
      go_ret2
      exact ⟨by rw [HD.out]; rfl, HE.out.2⟩
    · have e1 : (k == 1) = false := by rw [beq_eq_false_iff_ne]; exact k1
      by_cases k2 : k = 2
      · subst k2
        have HC := Lib.hid (dq_stamp HCQ.out HSO.out rfl)
        rw [show hOf (2, h_, nx, y, (vw, vt, vb, vs), ts).2.2.2.1 (2, h_, nx, y, (vw, vt, vb, vs), ts).2.1 Z.1 = X from HX.out] at HC
        have c0 := HK.out.cell 0
        have c1 := HK.out.cell 1
        have c2 := HK.out.cell 2
        have c3 := HK.out.cell 3
        have c4 := HK.out.cell 4
        have c5 := HK.out.cell 5
        have c6 := HK.out.cell 6
        have c7 := HK.out.cell 7
        have c8 := HK.out.cell 8
        simp only [List.getElem?_toArray, List.getElem?_cons_zero, List.getElem?_cons_succ] at c0 c1 c2 c3 c4 c5 c6 c7 c8
        go_wp2_with fail
        refine HC.out.mono ?_
        rintro e w3 hx3
        have HE := Lib.hid (q_base HB2 hx3)
        obtain ⟨rfl, _⟩ := hx3
        clear HC c0 c1 c2 c3 c4 c5 c6 c7 c8
        go_wp2
        go_ret2
        exact ⟨by rw [HD.out]; rfl, HE.out.2⟩
      · have e2 : (k == 2) = false := by rw [beq_eq_false_iff_ne]; exact k2
        by_cases k3 : k = 3
        · subst k3
          have HC := Lib.hid (dq_cut HCQ.out HSO.out rfl)
          rw [show hOf (3, h_, nx, y, (vw, vt, vb, vs), ts).2.2.2.1 (3, h_, nx, y, (vw, vt, vb, vs), ts).2.1 Z.1 = X from HX.out] at HC
          have c0 := HK.out.cell 0
          have c1 := HK.out.cell 1
          have c2 := HK.out.cell 2
          have c3 := HK.out.cell 3
          have c4 := HK.out.cell 4
          have c5 := HK.out.cell 5
          have c6 := HK.out.cell 6
          have c7 := HK.out.cell 7
          have c8 := HK.out.cell 8
          simp only [List.getElem?_toArray, List.getElem?_cons_zero, List.getElem?_cons_succ] at c0 c1 c2 c3 c4 c5 c6 c7 c8
          go_wp2_with fail
          refine HC.out.mono ?_
          rintro e w3 hx3
          have HE := Lib.hid (q_base HB2 hx3)
          obtain ⟨rfl, _⟩ := hx3
          clear HC c0 c1 c2 c3 c4 c5 c6 c7 c8
          go_wp2
          go_ret2
          exact ⟨by rw [HD.out]; rfl, HE.out.2⟩
        · have e3 : (k == 3) = false := by rw [beq_eq_false_iff_ne]; exact k3
          have HC := Lib.hid (dq_free HCQ.out HSO.out ⟨k0, k1, k2, k3⟩)
          rw [show hOf (k, h_, nx, y, (vw, vt, vb, vs), ts).2.2.2.1 (k, h_, nx, y, (vw, vt, vb, vs), ts).2.1 Z.1 = X from HX.out] at HC
          have c0 := HK.out.cell 0
          have c1 := HK.out.cell 1
          have c2 := HK.out.cell 2
          have c3 := HK.out.cell 3
          have c4 := HK.out.cell 4
          have c5 := HK.out.cell 5
          have c6 := HK.out.cell 6
          have c7 := HK.out.cell 7
          have c8 := HK.out.cell 8
          simp only [List.getElem?_toArray, List.getElem?_cons_zero, List.getElem?_cons_succ] at c0 c1 c2 c3 c4 c5 c6 c7 c8
          go_wp2_with fail
          refine HC.out.mono ?_
          rintro e w3 hx3
          have HE := Lib.hid (q_base HB2 hx3)
          obtain ⟨rfl, _⟩ := hx3
          clear HC c0 c1 c2 c3 c4 c5 c6 c7 c8
          go_wp2
          go_ret2
          exact ⟨by rw [HD.out]; rfl, HE.out.2⟩
end Go.Proofs.Ytbncpfkoeahhpaa

/- Two engines, rows beside them; runs of steps. -/
namespace Go.Proofs.Ytbncpfkoeahhpaa
open Go.ChangeShapes Go.WideShapes Go.ChangeAt Go.RowKit Go.Maps Go.Deep Go.Joins
set_option linter.unusedVariables false
set_option linter.unusedSimpArgs false

def rq (m : Nat) (L : List Sq) (Z : QS) : Nat → QS
  | 0 => Z
  | k + 1 => stQ m (L.getD k sq0) (rq m L Z k)
def erQ (m : Nat) (L : List Sq) (Z : QS) (k : Nat) : Int := (doQ m (L.getD k sq0) (rq m L Z k)).1.2
def erL (m : Nat) (L : List Sq) (Z : QS) (k : Nat) : List Int := (List.range k).map (erQ m L Z)
theorem tT_len {T : List Int} {h : Int} : (tT T h).length ≤ T.length + 1 := by
  unfold tT
  split
  · omega
  · rw [List.length_append]; exact Nat.le_refl _
theorem rq_len {m : Nat} {L : List Sq} {Z : QS} : ∀ k, (rq m L Z k).1.length ≤ Z.1.length + k
  | 0 => Nat.le_refl _
  | k + 1 => by
    have h := rq_len (m := m) (L := L) (Z := Z) k
    have h2 := tT_len (T := (rq m L Z k).1) (h := (doQ m (L.getD k sq0) (rq m L Z k)).1.1)
    show (tT _ _).length ≤ _
    omega
theorem erL_len {m : Nat} {L : List Sq} {Z : QS} {k : Nat} : (erL m L Z k).length = k := by unfold erL; simp
theorem erL_succ {m : Nat} {L : List Sq} {Z : QS} {k : Nat} : erL m L Z (k + 1) = erL m L Z k ++ [erQ m L Z k] := by unfold erL; rw [List.range_succ, List.map_append]; rfl
theorem erL_at {m : Nat} {L : List Sq} {Z : QS} {k n : Nat} (h : k < n) : (erL m L Z n)[k]? = some (erQ m L Z k) := by
  unfold erL
  rw [List.getElem?_map, List.getElem?_range h]; rfl
def ev_ (x : Int) : Value := .int .i64 x
theorem elemE : Elem Try.prog 63 25 ev_ 8 where
  und := Try.underlying63
  info := by
    have h : (Try.prog.info? 25).map (fun i => (i.zero, i.size, i.bytes)) = some (some (.int .i64 0), 1, 8) := by kernel_rfl
    cases hi : Try.prog.info? 25 with
    | none => rw [hi] at h; cases h
    | some i => rw [hi] at h; simp only [Option.map_some, Option.some.injEq, Prod.mk.injEq] at h; exact ⟨i, _, rfl, h.1, h.2.1, h.2.2, rfl⟩
  one := fun _ => rfl
def ndc (n : Nd) : List Value := [.int .i64 n.1.1, .int .i64 n.1.2.1, .bool n.1.2.2.1, .string n.1.2.2.2, .int .u64 n.2]
theorem ndc_len (n : Nd) : (ndc n).length = 5 := rfl
theorem elemN : RElem ndc 5 Try.prog 62 31 48 where
  und := Try.underlying62
  info := by
    have h : (Try.prog.info? 31).map (fun i => (i.zero, i.size, i.bytes)) = some (some (.agg #[.int .i64 0, .int .i64 0, .bool false, .string ByteArray.empty, .int .u64 0]), 5, 48) := by kernel_rfl
    cases hi : Try.prog.info? 31 with
    | none => rw [hi] at h; cases h
    | some i => rw [hi] at h; simp only [Option.map_some, Option.some.injEq, Prod.mk.injEq] at h; exact ⟨i, _, rfl, h.1, h.2.1, h.2.2, rfl⟩
  pos := by decide
  len := ndc_len
  one := fun x u hu => by simp [ndc] at hu; rcases hu with rfl | rfl | rfl | rfl | rfl <;> rfl
/-- what a Read tells -/
def rdN (Z : QS) (x : Int) : Nd := if isA Z.2.1 x then Z.2.2 x else nd0
theorem read_q {W : World} {B q : Nat} {cf : Conf} {a m : Nat} {S : Nat → Prop} {Z : QS} {U : List Int} {K : Nat} (h : CX W B q cf a m Z.2.1 S Z.2.2 U K) {x : Int} (hx : hR x) {N : Nd} (hN : rdN Z x = N) : Calls Try.prog 9 #[.pointer (some ⟨q, 0, none⟩), .int .u64 x] W fun e w' => e = .returned (.tuple #[.agg #[.int .i64 N.1.1, .int .i64 N.1.2.1, .bool N.1.2.2.1, .string N.1.2.2.2, .int .u64 N.2], .bool (isA Z.2.1 x)]) ∧ Below W.heap.size W w' := by
  have h1 := chread_any B q cf a m Z.2.1 S Z.2.2 U K W h.cr h.ci x hx
  unfold rdN at hN
  rw [hN] at h1
  exact h1
theorem CX.grown {W W' : World} {B q a m : Nat} {cf : Conf} {st : AS} {S : Nat → Prop} {nd : Int → Nd} {U : List Int} {K : Nat} {α : Type} {enc : α → Value} {B' e n : Nat} {v : Value} {xs : List α} (h : CX W B q cf a m st S nd U K) (ho : Ow enc W B' e v n xs) (ht : e ≠ 93 ∧ e ≠ 89 ∧ e ≠ 128) (h68 : e ≠ 68) (hg : W.grownBy W' v.ownBlock) : CX W' B q cf a m st S nd U K :=
  ⟨⟨h.cr.hq, h.cr.blk.grown hg (fun e2 => by
    obtain ⟨cur, hc⟩ := Ow.tag ho _ e2.symm
    exact absurd (blk_t h.cr.blk hc) (fun q => h68 q.symm)), h.cr.ar.grown ho ht hg, h.cr.vl, h.cr.may⟩, h.ci, h.pg⟩
theorem cx_row {W W' : World} {B q a m : Nat} {cf : Conf} {st : AS} {S : Nat → Prop} {nd : Int → Nd} {U : List Int} {K : Nat} {α : Type} {enc : α → List Value} {B' e n k : Nat} {v : Value} {xs : List α} (h : CX W B q cf a m st S nd U K) (ho : ROwn enc k W B' e v n xs) (ht : e ≠ 93 ∧ e ≠ 89 ∧ e ≠ 128) (h68 : e ≠ 68) (hg : W.grownBy W' v.ownBlock) : CX W' B q cf a m st S nd U K :=
  ⟨⟨h.cr.hq, h.cr.blk.grown hg (fun e2 => by
    obtain ⟨cur, hc⟩ := ho.tag _ e2.symm
    exact absurd (blk_t h.cr.blk hc) (fun q => h68 q.symm)), h.cr.ar.fr (R := fun k => v.ownBlock = some k) (FrS.of_grown hg (fun k e => e)) (fun k hk e => by
    obtain ⟨cur, hc⟩ := ho.tag k e
    exact h.cr.ar.not hc ht hk), h.cr.vl, h.cr.may⟩, h.ci, h.pg⟩
theorem ow_beside {α : Type} {enc : α → Value} {W W' : World} {B e n : Nat} {v v' : Value} {xs : List α} (o : Ow enc W B e v n xs) (hg : W.grownBy W' v'.ownBlock) (hn : ∀ j, v.ownBlock = some j → v'.ownBlock ≠ some j) : Ow enc W' B e v n xs :=
  ow_keep o (fun k ek => hg.block k (Ow.lt o k ek).2 (fun e => hn k ek e.symm))
theorem ow_tags {α β : Type} {enc : α → Value} {enc' : β → Value} {W : World} {B B' e e' n n' : Nat} {v v' : Value} {xs : List α} {ys : List β} (o : Ow enc W B e v n xs) (o' : Ow enc' W B' e' v' n' ys) (h : e ≠ e') : ∀ j, v.ownBlock = some j → v'.ownBlock ≠ some j := fun j ej ej' => by
  obtain ⟨c1, h1⟩ := Ow.tag o j ej
  obtain ⟨c2, h2⟩ := Ow.tag o' j ej'
  rw [h1] at h2
  cases h2
  exact h rfl
theorem row_tags {α β : Type} {enc : α → Value} {enc' : β → List Value} {W : World} {B B' e e' n n' k' : Nat} {v v' : Value} {xs : List α} {ys : List β} (o : Ow enc W B e v n xs) (o' : ROwn enc' k' W B' e' v' n' ys) (h : e ≠ e') : ∀ j, v.ownBlock = some j → v'.ownBlock ≠ some j := fun j ej ej' => by
  obtain ⟨c1, h1⟩ := Ow.tag o j ej
  obtain ⟨c2, h2⟩ := o'.tag j ej'
  rw [h1] at h2
  cases h2
  exact h rfl
/-- two engines of known states, what was told and read, and what is told to each -/
structure C7 (w W : World) (cf : Conf) (m q a q2 a2 : Nat) (T : List Int) (vT : Value) (Wn : List Nd) (vW : Value) (ZA : QS) (SA : Nat → Prop) (ZB : QS) (SB : Nat → Prop) (O : List Int) (v1 : Value) (D : List Int) (v2 : Value) (Er : List Int) (v3 : Value) : Prop where
  tw : TwoE W w.heap.size cf m q a ZA.2.1 SA ZA.2.2 ZA.1 ZA.1.length q2 a2 ZB.2.1 SB ZB.2.2 ZB.1 ZB.1.length
  hA : ∀ x ∈ ZA.1, hR x ∧ x ≠ 0
  hB : ∀ x ∈ ZB.1, hR x ∧ x ≠ 0
  told : Ow hv W w.heap.size 24 vT T.length T
  was : ROwn ndc 5 W w.heap.size 31 vW T.length Wn
  one : Ow hv W w.heap.size 24 v1 O.length O
  two : Ow hv W w.heap.size 24 v2 D.length D
  errs : Ow ev_ W w.heap.size 25 v3 Er.length Er
  n1 : ∀ j, v1.ownBlock = some j → vT.ownBlock ≠ some j ∧ v2.ownBlock ≠ some j
  n2 : ∀ j, v2.ownBlock = some j → vT.ownBlock ≠ some j
  lo : Below w.heap.size w W
section
variable {w W W' : World} {cf : Conf} {m q a q2 a2 : Nat} {T : List Int} {vT : Value} {Wn : List Nd} {vW : Value} {ZA : QS} {SA : Nat → Prop} {ZB : QS} {SB : Nat → Prop} {O : List Int} {v1 : Value} {D : List Int} {v2 : Value} {Er : List Int} {v3 : Value}
theorem C7.later (h : C7 w W cf m q a q2 a2 T vT Wn vW ZA SA ZB SB O v1 D v2 Er v3) (hb : Below W.heap.size W W') : C7 w W' cf m q a q2 a2 T vT Wn vW ZA SA ZB SB O v1 D v2 Er v3 :=
  ⟨h.tw.later hb, h.hA, h.hB, h.told.later hb, h.was.later hb, h.one.later hb, h.two.later hb, h.errs.later hb, h.n1, h.n2, stepB h.lo hb⟩
theorem row_ar {α : Type} {enc : α → List Value} {B a s B' e n k : Nat} {st : AS} {S : Nat → Prop} {v : Value} {xs : List α} (h : AR W B a s st S) (hf : FrS W W' S) (o : ROwn enc k W B' e v n xs) (ht : e ≠ 93 ∧ e ≠ 89 ∧ e ≠ 128) : ROwn enc k W' B' e v n xs :=
  o.keepS (fun i hi => by
    obtain ⟨c, hc⟩ := o.tag i hi
    exact hf.block i (o.lt i hi).2 (h.not hc ht))
theorem C7.stepA (h : C7 w W cf m q a q2 a2 T vT Wn vW ZA SA ZB SB O v1 D v2 Er v3) {Z' : QS} {val : Value} {e : Ending} (hx : XQ w.heap.size q cf a m SA Z' val W e W') : e = .returned val ∧ ∃ S', C7 w W' cf m q a q2 a2 T vT Wn vW Z' S' ZB SB O v1 D v2 Er v3 := by
  obtain ⟨he, S', ⟨hc, hz⟩, hs, hf⟩ := hx
  have hr := h.tw.a.cr.ar
  exact ⟨he, S', h.tw.stepA hc hs hf, hz, h.hB, hr.ow hf h.told (by decide), row_ar hr hf h.was (by decide), hr.ow hf h.one (by decide), hr.ow hf h.two (by decide), hr.ow hf h.errs (by decide), h.n1, h.n2, hr.frBelow hf h.lo (Nat.le_refl _) h.lo.size⟩
theorem C7.stepB (h : C7 w W cf m q a q2 a2 T vT Wn vW ZA SA ZB SB O v1 D v2 Er v3) {Z' : QS} {val : Value} {e : Ending} (hx : XQ w.heap.size q2 cf a2 m SB Z' val W e W') : e = .returned val ∧ ∃ S', C7 w W' cf m q a q2 a2 T vT Wn vW ZA SA Z' S' O v1 D v2 Er v3 := by
  obtain ⟨he, S', ⟨hc, hz⟩, hs, hf⟩ := hx
  have hr := h.tw.b.cr.ar
  exact ⟨he, S', h.tw.stepB hc hs hf, h.hA, hz, hr.ow hf h.told (by decide), row_ar hr hf h.was (by decide), hr.ow hf h.one (by decide), hr.ow hf h.two (by decide), hr.ow hf h.errs (by decide), h.n1, h.n2, hr.frBelow hf h.lo (Nat.le_refl _) h.lo.size⟩
theorem C7.grow1 (h : C7 w W cf m q a q2 a2 T vT Wn vW ZA SA ZB SB O v1 D v2 Er v3) {O' : List Int} {v' : Value} (ho : Ow hv W' w.heap.size 24 v' O'.length O') (hg : W.grownBy W' v1.ownBlock) (hn : Nw W v1 v') : C7 w W' cf m q a q2 a2 T vT Wn vW ZA SA ZB SB O' v' D v2 Er v3 :=
  ⟨⟨h.tw.a.grown h.one (by decide) (by decide) hg, h.tw.b.grown h.one (by decide) (by decide) hg, h.tw.dis⟩, h.hA, h.hB, ow_beside h.told hg (fun j ej e1 => (h.n1 j e1).1 ej), h.was.kept hg (fun i hi e => row_tags h.one h.was (by decide) i e.symm hi), ho, ow_beside h.two hg (fun j ej e1 => (h.n1 j e1).2 ej), ow_beside h.errs hg (ow_tags h.errs h.one (by decide)), (fun j ej => by
    rcases hn j ej with e | e
    · exact h.n1 j e
    · exact ⟨fun e2 => by have := (Ow.lt h.told j e2).2; omega, fun e2 => by have := (Ow.lt h.two j e2).2; omega⟩), h.n2, ow_below h.one h.lo h.lo.size hg⟩
theorem C7.grow2 (h : C7 w W cf m q a q2 a2 T vT Wn vW ZA SA ZB SB O v1 D v2 Er v3) {D' : List Int} {v' : Value} (ho : Ow hv W' w.heap.size 24 v' D'.length D') (hg : W.grownBy W' v2.ownBlock) (hn : Nw W v2 v') : C7 w W' cf m q a q2 a2 T vT Wn vW ZA SA ZB SB O v1 D' v' Er v3 :=
  ⟨⟨h.tw.a.grown h.two (by decide) (by decide) hg, h.tw.b.grown h.two (by decide) (by decide) hg, h.tw.dis⟩, h.hA, h.hB, ow_beside h.told hg (fun j ej e1 => h.n2 j e1 ej), h.was.kept hg (fun i hi e => row_tags h.two h.was (by decide) i e.symm hi), ow_beside h.one hg (fun j ej e1 => (h.n1 j ej).2 e1), ho, ow_beside h.errs hg (ow_tags h.errs h.two (by decide)), (fun j ej => ⟨(h.n1 j ej).1, fun e2 => by
    rcases hn j e2 with e | e
    · exact (h.n1 j ej).2 e
    · have := (Ow.lt h.one j ej).2
      omega⟩), (fun j ej e2 => by
    rcases hn j ej with e | e
    · exact h.n2 j e e2
    · have := (Ow.lt h.told j e2).2
      omega), ow_below h.two h.lo h.lo.size hg⟩
theorem C7.grow3 (h : C7 w W cf m q a q2 a2 T vT Wn vW ZA SA ZB SB O v1 D v2 Er v3) {E' : List Int} {v' : Value} (ho : Ow ev_ W' w.heap.size 25 v' E'.length E') (hg : W.grownBy W' v3.ownBlock) : C7 w W' cf m q a q2 a2 T vT Wn vW ZA SA ZB SB O v1 D v2 E' v' :=
  ⟨⟨h.tw.a.grown h.errs (by decide) (by decide) hg, h.tw.b.grown h.errs (by decide) (by decide) hg, h.tw.dis⟩, h.hA, h.hB, ow_beside h.told hg (ow_tags h.told h.errs (by decide)), h.was.kept hg (fun i hi e => row_tags h.errs h.was (by decide) i e.symm hi), ow_beside h.one hg (ow_tags h.one h.errs (by decide)), ow_beside h.two hg (ow_tags h.two h.errs (by decide)), ho, h.n1, h.n2, ow_below h.errs h.lo h.lo.size hg⟩
end
end Go.Proofs.Ytbncpfkoeahhpaa
