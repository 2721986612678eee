/- Names told, names that are the same; steps as a law is handed them. -/
import Derived.Test.YtgjponobiplipaaE
import Derived.Test.YtgjponobiplipaaLF
import Derived.Deep.Slices
import Derived.Deep.Strs
import Derived.SliceStrings
import Derived.ChangeMaps5
import Derived.ChangeSame
import Derived.Lib.SmallJoins
namespace Go.Proofs.Ytgjponobiplipaa
open Go.ChangeShapes Go.WideShapes Go.ChangeAt Go.RowKit Go.Maps Go.Deep Go.Joins Go.ChangeMaps
set_option linter.unusedVariables false
set_option linter.unusedSimpArgs false

theorem ret_slice {A : Option Addr} {n m c : Nat} (h : n = m) : Ending.returned (.slice A n c) = .returned (.slice A m c) := by rw [h]
theorem nindex (t : TypeId) (ht : Try.prog.underlying t = some (.slice 27) ∨ Try.prog.underlying t = some (.slice 37)) (hr : t = 30 ∨ t = 35) (g m c k : Nat) (i : Int) (hi : i = (k : Int)) (h : k < m) (W : World) : (Instr.indexAt t (.slice (some ⟨g, 0, none⟩) m c) (.int .i64 i)).run Try.prog W = .ok (.pointer (some ⟨g, k * 2, none⟩)) W := by
  subst hi
  have h1 : (0 : Int) ≤ (k : Int) ∧ (k : Int) < (m : Int) := by omega
  rcases hr with rfl | rfl
  · go_simp
  · go_simp
theorem n37info : (Try.prog.info? 37).map (fun i => (i.zero, i.size, i.bytes)) = some (some (.agg #[.int .u8 0, .int .u64 0]), 2, 16) := by kernel_rfl
theorem take_snoc {L : List Int} {k : Nat} (h : k < L.length) : L.take (k + 1) = L.take k ++ [L.getD k 0] := by
  rw [List.take_add_one, List.getD_eq_getElem?_getD, List.getElem?_eq_getElem h]; rfl
set_option maxRecDepth 100000 in
set_option maxHeartbeats 4000000 in
theorem names_any (B : Nat) (A : Option Addr) (c : Nat) (L : List Int) (w : World) (h : NSl w B A L) (hn : L.length ≤ 1000) : Calls Try.prog 18 #[.slice A L.length c] w (HeldEnd L w) := by
  have H := Lib.hid h
  obtain ⟨i0, hi, hz0, hz1, hz2⟩ := info_parts n37info
  clear h
  go_enter Try.func18, Try.ntmps18
  go_wp2
  go_loopw [3, 4] (fun v i wr => ∃ k : Nat, k ≤ L.length ∧ i = .int .i64 k ∧ NOwn 37 wr w.heap.size v (L.take k) ∧ Below w.heap.size w wr) (fun _ i _ => L.length - (intOf i).toNat)
  case atStart => exact ⟨0, Nat.zero_le _, rfl, NOwn.nil _ _ _, Below.refl _ _⟩
  case round =>
    obtain ⟨k, hk, rfl, ho, hb⟩ := hrel
    have hkl : (L.take k).length = k := by rw [List.length_take]; omega
    obtain ⟨Ao, co, rfl, _⟩ := ho.sl
    have HO := Lib.hid ho
    have HB := Lib.hid hb
    rw [hkl]
    clear ho hb
    by_cases hlt : k < L.length
    · have d2 : decide ((k : Int) < (L.length : Int)) = true := decide_eq_true (by omega)
      have wk : IntKind.i64.wrap ((k : Int) + 1) = (k : Int) + 1 := IntWalk.i64_in _ (by omega)
      obtain ⟨g, rfl, _, _, hcell⟩ := (H.out.later HB.out) (by omega)
      obtain ⟨x0, x1, _, _⟩ := hcell k hlt
      have i1 := nindex 30 (.inl Try.underlying30) (.inl rfl) g L.length c k (k : Int) rfl hlt
      have HTS := Lib.hid (take_snoc hlt)
      obtain ⟨z, hz⟩ : ∃ z, L.getD k 0 = z := ⟨_, rfl⟩
      rw [hz] at x0 x1 HTS
      have hb2 : Below wr.heap.size wr (wr.alloc (.cells #[.int .u8 (z / 18446744073709551616), .int .u64 (z % 18446744073709551616)] 37)) := (Below.refl _ _).alloc (Nat.le_refl _) _
      have HO2 := Lib.hid (HO.out.later hb2)
      have HB2 := Lib.hid (stepB HB.out hb2)
      have HX := Lib.hid (Blk.new wr #[.int .u8 (z / 18446744073709551616), .int .u64 (z % 18446744073709551616)] 37)
      have HONE := Lib.hid (blk_oneN HX.out)
      rw [hkl] at HO2
      have HO3 : Hid ((wr.alloc (.cells #[.int .u8 (z / 18446744073709551616), .int .u64 (z % 18446744073709551616)] 37)).ownsRow w.heap.size 37 2 (.slice Ao k co) k (nmvs (L.take k))) := by
        have := HO2.out; unfold NOwn at this; rw [hkl] at this; exact this
      clear hcell hz hb2 HO HB HX HO2
      go_wp2_with (at_builtin; refine wpList_append_own _ rfl (.tmp 11) (.tmp 16) 35 rfl w.heap.size 37 i0 _ 2 16 Try.underlying35 hi hz0 hz1 hz2 rfl (by decide) _ k (nmvs (L.take k)) rfl HO3.out ⟨wr.heap.size, 0, none⟩ 1 1 (nmvs [z]) rfl rfl HONE.out (nmvs_one _) (by unfold maxLen; omega) (by omega) HB2.out.size ?_; intro v5 w5 ho5 hg5)
      intro hnil5
      have ho6 : NOwn 37 w5 w.heap.size v5 (L.take (k + 1)) := by unfold NOwn; rw [HTS.out, nmvs_app, List.length_append, hkl]; exact ho5
      have HB5 : Hid (Below w.heap.size w w5) := HB2.out.grown hg5 HB2.out.size (fun j e => (World.ownsRow.lt HO3.out j e).1)
      obtain ⟨A5, c5, rfl, _⟩ := ho6.sl
      have HO6 := Lib.hid ho6
      clear ho5 ho6 hg5 hnil5 HO3 HB2 x0 x1 HONE i1 HTS
      go_wp2
      go_roundw
      case rel => exact ⟨k + 1, by omega, by go_num, HO6.out, HB5.out⟩
      case measure => simp [intOf]; omega
    · obtain rfl : k = L.length := by omega
      have d2 : decide ((L.length : Int) < (L.length : Int)) = false := decide_eq_false (by omega)
      have HO2 : Hid (NOwn 37 wr w.heap.size (.slice Ao L.length co) L) := by
        have := HO.out; rw [List.take_length] at this; exact this
      clear HO hkl
      go_wp2
      go_ret
      exact ⟨_, _, rfl, HO2.out.nsl, HB.out⟩
set_option maxRecDepth 100000 in
set_option maxHeartbeats 4000000 in
theorem same_names (B1 B2 : Nat) (A1 A2 : Option Addr) (c1 c2 : Nat) (L : List Int) (w : World) (h1 : NSl w B1 A1 L) (h2 : NSl w B2 A2 L) (hn : L.length ≤ 1000) : Calls Try.prog 17 #[.slice A1 L.length c1, .slice A2 L.length c2] w fun x w' => x = .returned (.bool true) ∧ Below w.heap.size w w' := by
  have H1 := Lib.hid h1
  have H2 := Lib.hid h2
  have dl : ((L.length : Int) != (L.length : Int)) = false := by simp
  clear h1 h2
  go_enter Try.func17, Try.ntmps17
  go_wp2
  go_loopw [5] (fun i wr => ∃ k : Nat, k ≤ L.length ∧ i = .int .i64 k ∧ Below w.heap.size w wr) (fun i _ => L.length - (intOf i).toNat)
  case atStart => exact ⟨0, Nat.zero_le _, rfl, Below.refl _ _⟩
  case round =>
    obtain ⟨k, hk, rfl, hb⟩ := hrel
    have HB := Lib.hid hb
    clear hb
    by_cases hlt : k < L.length
    · have d2 : decide ((k : Int) < (L.length : Int)) = true := decide_eq_true (by omega)
      have wk : IntKind.i64.wrap ((k : Int) + 1) = (k : Int) + 1 := IntWalk.i64_in _ (by omega)
      obtain ⟨g1, rfl, _, _, hc1⟩ := (H1.out.later HB.out) (by omega)
      obtain ⟨g2, rfl, _, _, hc2⟩ := (H2.out.later HB.out) (by omega)
      obtain ⟨x0, x1, _, _⟩ := hc1 k hlt
      obtain ⟨y0, y1, _, _⟩ := hc2 k hlt
      have i1 := nindex 35 (.inr Try.underlying35) (.inr rfl) g1 L.length c1 k (k : Int) rfl hlt
      have i2 := nindex 35 (.inr Try.underlying35) (.inr rfl) g2 L.length c2 k (k : Int) rfl hlt
      generalize L.getD k 0 / 18446744073709551616 = zk at *
      generalize L.getD k 0 % 18446744073709551616 = zi at *
      clear hc1 hc2
      go_wp2
      go_quiet (fail)
      clear x0 x1 y0 y1 i1 i2
      go_wp2
      go_roundw
      case rel => exact ⟨k + 1, by omega, by go_num, below_drewN HB.out nq⟩
      case measure => simp [intOf]; omega
    · obtain rfl : k = L.length := by omega
      have d2 : decide ((L.length : Int) < (L.length : Int)) = false := decide_eq_false (by omega)
      go_wp2
      go_ret
      exact ⟨rfl, HB.out⟩
/-! ### steps -/
/-- a step: whether it is a Drop, of which name, by whom -/
abbrev Stp := Bool × Int × Int
abbrev stp0 : Stp := (false, 0, 0)
def stv (s : Stp) : List Value := [.bool s.1, .int .u8 (s.2.1 / 18446744073709551616), .int .u64 (s.2.1 % 18446744073709551616), .int .i64 s.2.2]
def StpOk (s : Stp) : Prop := rg s.2.1 ∧ (Lit.int .i64 s.2.2).wf = true
structure SCell (W : World) (g o : Nat) (s : Stp) : Prop where
  c0 : W.cell? ⟨g, o, none⟩ = some (.bool s.1)
  c1 : W.cell? ⟨g, o + 1, none⟩ = some (.int .u8 (s.2.1 / 18446744073709551616))
  c2 : W.cell? ⟨g, o + 2, none⟩ = some (.int .u64 (s.2.1 % 18446744073709551616))
  c3 : W.cell? ⟨g, o + 3, none⟩ = some (.int .i64 s.2.2)
theorem SCell.below {W W' : World} {n g o : Nat} {s : Stp} (h : SCell W g o s) (hb : Below n W W') (hg : g < n) : SCell W' g o s :=
  ⟨(hb.cell (p := ⟨g, o, none⟩) hg).trans h.c0, (hb.cell (p := ⟨g, o + 1, none⟩) hg).trans h.c1, (hb.cell (p := ⟨g, o + 2, none⟩) hg).trans h.c2, (hb.cell (p := ⟨g, o + 3, none⟩) hg).trans h.c3⟩
def Steps (n₀ : Nat) (W : World) (A : Option Addr) (n : Nat) (S : List Stp) : Prop :=
  S.length = n ∧ (0 < n → ∃ g off, A = some ⟨g, off, none⟩ ∧ g < n₀ ∧ ∀ j, j < n → SCell W g (off + j * 4) (S.getD j stp0) ∧ StpOk (S.getD j stp0))
theorem Steps.below {n₀ : Nat} {W W' : World} {A : Option Addr} {n : Nat} {S : List Stp} (h : Steps n₀ W A n S) (hb : Below n₀ W W') : Steps n₀ W' A n S :=
  ⟨h.1, fun hn => by
    obtain ⟨g, off, hA, hg, hc⟩ := h.2 hn
    exact ⟨g, off, hA, hg, fun j hj => ⟨(hc j hj).1.below hb hg, (hc j hj).2⟩⟩⟩
theorem Steps.mono {n₀ n₁ : Nat} {W : World} {A : Option Addr} {n : Nat} {S : List Stp} (h : Steps n₀ W A n S) (hn : n₀ ≤ n₁) : Steps n₁ W A n S :=
  ⟨h.1, fun h0 => by
    obtain ⟨g, off, hA, hg, hc⟩ := h.2 h0
    exact ⟨g, off, hA, Nat.lt_of_lt_of_le hg hn, hc⟩⟩
theorem sindex (g off m c k : Nat) (i : Int) (hi : i = (k : Int)) (h : k < m) (W : World) : (Instr.indexAt 38 (.slice (some ⟨g, off, none⟩) m c) (.int .i64 i)).run Try.prog W = .ok (.pointer (some ⟨g, off + k * 4, none⟩)) W := by
  subst hi
  have h1 : (0 : Int) ≤ (k : Int) ∧ (k : Int) < (m : Int) := by omega
  go_simp
theorem u45 : ∃ f0 f1 f2 : Field, Try.prog.underlying 45 = some (.struct #[f0, f1, f2]) ∧ f0.type = 4 ∧ f1.type = 27 ∧ f2.type = 3 ∧ f0.offset = 0 ∧ f1.offset = 1 ∧ f2.offset = 3 :=
  ⟨_, _, _, Try.underlying45, rfl, rfl, rfl, rfl, rfl, rfl⟩
theorem cells45 : Try.prog.cellsOf 45 = 4 := by kernel_rfl
theorem cells4 : Try.prog.cellsOf 4 = 1 := by kernel_rfl
theorem cells3 : Try.prog.cellsOf 3 = 1 := by kernel_rfl
theorem list2 {α : Type} {l : List α} (h : l.length = 2) : ∃ a b, l = [a, b] := by
  match l, h with
  | [a, b], _ => exact ⟨a, b, rfl⟩
theorem list4 {α : Type} {l : List α} (h : l.length = 4) : ∃ a b c d, l = [a, b, c, d] := by
  match l, h with
  | [a, b, c, d], _ => exact ⟨a, b, c, d, rfl⟩
theorem code_of {x y : Int} (hx : (Lit.int .u8 x).wf = true) (hy : (Lit.int .u64 y).wf = true) : ∃ z, rg z ∧ x = z / 18446744073709551616 ∧ y = z % 18446744073709551616 := by
  simp only [Lit.wf, Bool.and_eq_true, decide_eq_true_eq] at hx hy
  have x0 : (0 : Int) ≤ x := hx.1
  have x1 : x ≤ (255 : Int) := hx.2
  have y0 : (0 : Int) ≤ y := hy.1
  have y1 : y ≤ (18446744073709551615 : Int) := hy.2
  exact ⟨x * 18446744073709551616 + y, by unfold rg; omega, by omega, by omega⟩
section
variable {H : Type} {enc : TypeId × Value → H}
theorem nm_read {W : World} {base : Nat} {spare : Nat → Bool} {held : Bool} {fuel : Nat} {cs : List Value} {x : DataW H × List MemPlace} (h : DataW.trod enc Try.prog W base spare held fuel 27 cs = some x) :
    ∃ z, rg z ∧ cs = [.int .u8 (z / 18446744073709551616), .int .u64 (z % 18446744073709551616)] := by
  obtain ⟨f0, f1, hu, t0, t1, o0, o1, _, _⟩ := u27
  obtain ⟨y0, y1, n, hx, hl, h0, h1⟩ := trod_struct2 hu h
  obtain ⟨c0, c1, rfl⟩ := list2 (hl.trans cells27)
  rw [t0, o0, cells5] at h0
  rw [t1, o1, cells25] at h1
  obtain ⟨a, e0, _, w0⟩ := DataW.trod_int Try.underlying5 h0
  obtain ⟨b, e1, _, w1⟩ := DataW.trod_int Try.underlying25 h1
  simp at e0 e1
  subst e0 e1
  obtain ⟨z, hz, rfl, rfl⟩ := code_of w0 w1
  exact ⟨z, hz, rfl⟩
theorem stp_read {W : World} {base : Nat} {spare : Nat → Bool} {held : Bool} {fuel : Nat} {cs : List Value} {x : DataW H × List MemPlace} (h : DataW.trod enc Try.prog W base spare held fuel 45 cs = some x) :
    ∃ v : Stp, cs = stv v ∧ StpOk v := by
  obtain ⟨f0, f1, f2, hu, t0, t1, t2, o0, o1, o2⟩ := u45
  obtain ⟨y0, y1, y2, n, hx, hl, h0, h1, h2⟩ := trod_struct3 hu h
  obtain ⟨c0, c1, c2, c3, rfl⟩ := list4 (hl.trans cells45)
  rw [t0, o0, cells4] at h0
  rw [t1, o1, cells27] at h1
  rw [t2, o2, cells3] at h2
  obtain ⟨a, e0, _⟩ := DataW.trod_bool Try.underlying4 h0
  obtain ⟨z, hz, e1⟩ := nm_read h1
  obtain ⟨b, e2, _, w2⟩ := DataW.trod_int Try.underlying3 h2
  simp at e0 e1 e2
  obtain ⟨rfl, rfl⟩ := e1
  subst e0 e2
  exact ⟨(a, z, b), rfl, hz, w2⟩
theorem open_nm {W : World} {base : Nat} {v : Value} {d : DataW H} {ps : List MemPlace}
    (hval : Value.okWide Try.prog W .any base 27 v) (h : DataW.Trod enc Try.prog W 0 (fun _ => true) true 27 v d ps) : ∃ z, v = nmv z ∧ rg z := by
  obtain ⟨cs, rfl, hsz⟩ := okWide_struct Try.underlying27 hval
  obtain ⟨fuel, hf⟩ := h
  obtain ⟨z, hz, e⟩ := nm_read hf
  refine ⟨z, ?_, hz⟩
  have hcs : cs = #[.int .u8 (z / 18446744073709551616), .int .u64 (z % 18446744073709551616)] := by
    apply Array.toList_inj.1
    simpa [Value.cells] using e
  rw [hcs]; rfl
theorem open_step {W : World} {base : Nat} {v : Value} {d : DataW H} {ps : List MemPlace}
    (hval : Value.okWide Try.prog W .any base 45 v) (h : DataW.Trod enc Try.prog W 0 (fun _ => true) true 45 v d ps) : ∃ s : Stp, v = .agg (stv s).toArray ∧ StpOk s := by
  obtain ⟨cs, rfl, hsz⟩ := okWide_struct Try.underlying45 hval
  obtain ⟨fuel, hf⟩ := h
  obtain ⟨s, e, hs⟩ := stp_read hf
  refine ⟨s, ?_, hs⟩
  have hcs : cs = (stv s).toArray := by
    apply Array.toList_inj.1
    simpa [Value.cells] using e
  rw [hcs]
theorem open_steps {W : World} {base : Nat} {v : Value} {d : DataW H} {ps : List MemPlace}
    (hval : Value.okWide Try.prog W .any base 38 v) (h : DataW.Trod enc Try.prog W 0 (fun _ => true) true 38 v d ps) :
    ∃ A n c S, v = .slice A n c ∧ Steps W.heap.size W A n S ∧ n ≤ maxLen ∧ n ≤ c ∧ (A = none → n = 0 ∧ c = 0) := by
  obtain ⟨A, n, c, rfl⟩ := okWide_slice Try.underlying38 hval
  obtain ⟨fuel, hf⟩ := h
  rcases open_slice Try.underlying38 hf with ⟨hcs, _⟩ | ⟨a, len, cap, m, n1, D, Pl, hcs, hb, hl, hm, hmm, hx, hi⟩
  · simp [Value.cells] at hcs
    obtain ⟨rfl, rfl, rfl⟩ := hcs
    exact ⟨none, 0, 0, [], rfl, ⟨rfl, fun h => by omega⟩, Nat.zero_le _, Nat.le_refl _, fun _ => ⟨rfl, rfl⟩⟩
  · simp [Value.cells] at hcs
    obtain ⟨rfl, rfl, rfl⟩ := hcs
    simp only [if_true] at hmm
    subst hmm
    have hone : ∀ i, i < n → ∃ v : Stp, (∀ j, j < 4 → W.cell? (a.add (i * 4 + j)) = (stv v)[j]?) ∧ StpOk v := fun i hin => by
      obtain ⟨cs', hc, ht⟩ := hi i (by omega)
      rw [cells45] at hc
      obtain ⟨v, rfl, hw⟩ := stp_read ht
      obtain ⟨_, _, hat⟩ := World.cells?_some hc
      exact ⟨v, fun j hj => by rw [← Go.Deep.add_add]; exact hat j hj, hw⟩
    obtain ⟨f, hf'⟩ := choose_lt hone
    have hgd : ∀ j, j < n → ((List.range n).map f).getD j stp0 = f j := fun j hj => by
      simp [List.getD_eq_getElem?_getD, hj]
    refine ⟨some a, n, m, (List.range n).map f, rfl, ⟨by simp, fun hn => ?_⟩, by omega, by omega, fun h => by cases h⟩
    obtain ⟨b, off, spot⟩ := a
    have h0 := (hf' 0 hn).1 0 (by omega)
    have hspot : spot = none := by simpa [Addr.add] using World.cell?_spot (v := .bool (f 0).1) h0
    subst hspot
    have hlt : b < W.heap.size := by
      by_cases hge : b < W.heap.size
      · exact hge
      · have : W.heap[b]? = none := Array.getElem?_eq_none (by omega)
        simp [World.cell?, Addr.add, this, stv] at h0
    refine ⟨b, off, rfl, hlt, fun j hj => ?_⟩
    rw [hgd j hj]
    have e0 := (hf' j hj).1 0 (by omega)
    have e1 := (hf' j hj).1 1 (by omega)
    have e2 := (hf' j hj).1 2 (by omega)
    have e3 := (hf' j hj).1 3 (by omega)
    rw [add_plain] at e0 e1 e2 e3
    exact ⟨⟨e0, e1, e2, e3⟩, (hf' j hj).2⟩
end
/-- a step done -/
def doC (C : List Ct) (s : Stp) : List Ct := if s.1 then dropS C s.2.1 s.2.2 else tryS C s.2.1 s.2.2
def doB (C : List Ct) (s : Stp) : Bool := if s.1 then dropB C s.2.1 s.2.2 else tryB C s.2.1 s.2.2
/-- the first k steps -/
def runC (S : List Stp) (C : List Ct) : Nat → List Ct
  | 0 => C
  | k + 1 => doC (runC S C k) (S.getD k stp0)
theorem do_len (C : List Ct) (s : Stp) : (doC C s).length ≤ C.length + 1 := by
  unfold doC dropS tryS
  repeat' split
  all_goals first | omega | (have := len_del C s.2.1; omega) | (have := len_put C s.2.1 s.2.2; omega)
theorem LaAt.below {w W W' : World} {p b : Nat} {C : List Ct} (h : LaAt W w.heap.size p b C) (hb : Below w.heap.size w W) (hg : W.grownBy W' (some b)) : Below w.heap.size w W' := hb.grown hg hb.size (fun k e => by cases e; exact h.own.1)
end Go.Proofs.Ytgjponobiplipaa
