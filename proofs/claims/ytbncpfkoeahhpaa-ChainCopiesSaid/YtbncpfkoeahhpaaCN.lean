/- The engine with all that is known of it; its calls. -/
import Derived.Test.YtbncpfkoeahhpaaCM
import Derived.Test.YtbncpfkoeahhpaaCDc
import Derived.Test.YtbncpfkoeahhpaaCDd
namespace Go.Proofs.Ytbncpfkoeahhpaa
open Go.ChangeShapes Go.WideShapes Go.ChangeAt Go.RowKit Go.Maps
set_option linter.unusedVariables false
set_option linter.unusedSimpArgs false

structure CX (W : World) (B q : Nat) (cf : Conf) (a m : Nat) (st : AS) (S : Nat → Prop) (nd : Int → Nd) (U : List Int) (K : Nat) : Prop where
  cr : CR W B q cf a m st S
  ci : CI m st nd U K
  pg : st.2.1.length ≤ K
theorem CX.later {W W' : World} {B q a m : Nat} {cf : Conf} {st : AS} {S : Nat → Prop} {nd : Int → Nd} {U : List Int} {K : Nat} (h : CX W B q cf a m st S nd U K) (hb : Below W.heap.size W W') : CX W' B q cf a m st S nd U K := ⟨h.cr.later hb, h.ci, h.pg⟩
theorem CX.pu {W : World} {B q a m : Nat} {cf : Conf} {st : AS} {S : Nat → Prop} {nd : Int → Nd} {U : List Int} {K : Nat} (h : CX W B q cf a m st S nd U K) : Pu (27 + m) st := h.cr.ar.pure
theorem CX.us {W : World} {B q a m : Nat} {cf : Conf} {st : AS} {S : Nat → Prop} {nd : Int → Nd} {U : List Int} {K : Nat} (h : CX W B q cf a m st S nd U K) (hK : K ≤ 100000) : usA st = U.countP (fun x => isA st x) := h.ci.us hK h.pu
theorem al_ok {s : Nat} {st : AS} (h : st.2.1.length < 4096) : (alA s st).2.2 = 0 := by
  unfold alA
  split
  · rfl
  · rw [if_neg (by omega)]; rfl
theorem al_len {s : Nat} {st : AS} : (alA s st).1.2.1.length ≤ st.2.1.length + 1 := by
  unfold alA putA
  split
  · simp
  · split
    · simp
    · simp
theorem wr_len {s : Nat} {st : AS} {y : Int} {Tx : ByteArray} : (wrA s y Tx st).2.1.length = st.2.1.length := by unfold wrA; split <;> simp
theorem fr_len {st : AS} {y : Int} : (frA y st).2.1.length = st.2.1.length := by unfold frA; split <;> simp
def XE (B q : Nat) (cf : Conf) (a m : Nat) (S : Nat → Prop) (nd : Int → Nd) (U : List Int) (K : Nat) (I : Int → Bool) (val : Value) (w : World) (e : Ending) (w' : World) : Prop :=
  e = .returned val ∧ ∃ st' S', CX w' B q cf a m st' S' nd U K ∧ (∀ x, hR x → isA st' x = I x) ∧ (∀ k, S' k → S k ∨ w.heap.size ≤ k) ∧ FrS w w' S
theorem xmake (B q : Nat) (cf : Conf) (a m : Nat) (st : AS) (S : Nat → Prop) (nd : Int → Nd) (U : List Int) (K : Nat) (w : World) (h : CX w B q cf a m st S nd U K) (wr_ t : Int) (b : Bool) (v : ByteArray) (x : Int) (hs : v.size ≤ maxLen) (hmay : mayV m (wr_, t, b, v) = true) (hw : wr_ ≤ 9223372036854775807) (hx : hR x) (hK : K < 4000) : Calls Try.prog 8 #[.pointer (some ⟨q, 0, none⟩), .agg #[.int .i64 wr_, .int .i64 t, .bool b, .string v], .int .u64 x] w fun e w' => ∃ y, (hR y ∧ y ∉ U ∧ isA st y = false ∧ y ≠ 0) ∧ XE B q cf a m S (setN nd y ((wr_, t, b, v), x)) (U ++ [y]) (K + 1) (fun z => isA st z || decide (z = y)) (.tuple #[.int .u64 y, .int .i64 0]) w e w' := by
  have hE : (alA (27 + m) st).2.2 = 0 := al_ok (by have := h.pg; omega)
  have hu := h.pu
  have hm := h.cr.m256
  have hvn : VN m ((wr_, t, b, v), x) := mayV_VN hmay hw hx
  have hsz : (encT ((wr_, t, b, v), x)).size ≤ 27 + m := by rw [encT_size]; have := hvn.2.2.1; simp only at this ⊢; omega
  have hi : isA (alA (27 + m) st).1 (alA (27 + m) st).2.1 = true := by
    rcases alA_cases (s := 27 + m) (by omega) (by omega) hu.1 hu.2.2.1 hu.2.2.2 with e | ⟨l, L, e, el, h5, h6, h7, h8, h9⟩
    · rw [e] at hE; cases hE
    · rw [e]; exact ((put_step h.ci.ti (by omega) hu h5 h6 h7 h8 h9).new rfl).2.2
  refine (chmake_yes B q cf a m st S w h.cr wr_ t b v x hs hmay hw hx (by have := h.ci.ti.glen; omega) hE (alA_rg (by omega) (by omega) hu) (by unfold wrAE; rw [if_pos hi, if_pos hsz])).mono ?_
  rintro e w' ⟨⟨he, S', h1, h2, h3⟩, hu1⟩
  have hk := h.ci.make (by omega) hu hm _ hvn hE hu1
  refine ⟨(alA (27 + m) st).2.1, ⟨hk.rg, hk.new.1, hk.new.2, hk.ne⟩, he, _, S', ⟨h1, hk.ci, ?_⟩, hk.is, h2, h3⟩
  rw [wr_len]
  have := al_len (s := 27 + m) (st := st)
  have := h.pg
  omega
theorem xwrite (B q : Nat) (cf : Conf) (a m : Nat) (st : AS) (S : Nat → Prop) (nd : Int → Nd) (U : List Int) (K : Nat) (w : World) (h : CX w B q cf a m st S nd U K) {val : Value} {e : Ending} {w' : World} {x : Int} (hx : hR x) (n : Nd) (hn : VN m n) (hE : CEnd B q cf a m (wrA (27 + m) x (encT n) st) S val w e w') : XE B q cf a m S (setN nd x n) U K (fun z => isA st z) val w e w' := by
  obtain ⟨he, S', h1, h2, h3⟩ := hE
  exact ⟨he, _, S', ⟨h1, h.ci.write h.pu hx n hn, by rw [wr_len]; exact h.pg⟩, fun z _ => is_write, h2, h3⟩
theorem xstamp (B q : Nat) (cf : Conf) (a m : Nat) (st : AS) (S : Nat → Prop) (nd : Int → Nd) (U : List Int) (K : Nat) (w : World) (h : CX w B q cf a m st S nd U K) (x : Int) (hx : hR x) (hn : isA st x = true) (ts : Int) (ht : 1 ≤ ts ∧ ts ≤ 1048576) : Calls Try.prog 12 #[.pointer (some ⟨q, 0, none⟩), .int .u64 x, .int .i64 ts] w (XE B q cf a m S (setN nd x (((nd x).1.1, ts, (nd x).1.2.2), (nd x).2)) U K (fun z => isA st z) (.int .i64 0) w) := by
  refine (stamp_yes B q cf a m st S nd U K w h.cr h.ci x hx hn ts ht).mono ?_
  intro e w' hE
  have hv := (h.ci.val x hx hn).1
  exact xwrite B q cf a m st S nd U K w h hx _ ⟨hv.1, ⟨by simp only; omega, by simp only; omega⟩, hv.2.2⟩ hE
theorem xcut (B q : Nat) (cf : Conf) (a m : Nat) (st : AS) (S : Nat → Prop) (nd : Int → Nd) (U : List Int) (K : Nat) (w : World) (h : CX w B q cf a m st S nd U K) (x : Int) (hx : hR x) (hn : isA st x = true) : Calls Try.prog 13 #[.pointer (some ⟨q, 0, none⟩), .int .u64 x] w (XE B q cf a m S (setN nd x ((nd x).1, 0)) U K (fun z => isA st z) (.int .i64 0) w) := by
  refine (cut_yes B q cf a m st S nd U K w h.cr h.ci x hx hn).mono ?_
  intro e w' hE
  have hv := (h.ci.val x hx hn).1
  exact xwrite B q cf a m st S nd U K w h hx _ ⟨hv.1, hv.2.1, hv.2.2.1, hv.2.2.2.1, by simp⟩ hE
theorem xchange (B q : Nat) (cf : Conf) (a m : Nat) (st : AS) (S : Nat → Prop) (nd : Int → Nd) (U : List Int) (K : Nat) (w : World) (h : CX w B q cf a m st S nd U K) (x : Int) (hx : hR x) (wr_ t : Int) (b : Bool) (v : ByteArray) (hs : v.size ≤ maxLen) (hmay : mayV m (wr_, t, b, v) = true) (hw : wr_ ≤ 9223372036854775807) (hn : isA st x = true) : Calls Try.prog 11 #[.pointer (some ⟨q, 0, none⟩), .int .u64 x, .agg #[.int .i64 wr_, .int .i64 t, .bool b, .string v]] w (XE B q cf a m S (setN nd x ((wr_, t, b, v), (nd x).2)) U K (fun z => isA st z) (.int .i64 0) w) := by
  refine (chchange_yes B q cf a m st S nd U K w h.cr h.ci x hx wr_ t b v hs hmay hw hn).mono ?_
  intro e w' hE
  have hv := (h.ci.val x hx hn).1
  exact xwrite B q cf a m st S nd U K w h hx _ (mayV_VN hmay hw hv.2.2.2.2) hE
theorem xfree (B q : Nat) (cf : Conf) (a m : Nat) (st : AS) (S : Nat → Prop) (nd : Int → Nd) (U : List Int) (K : Nat) (w : World) (h : CX w B q cf a m st S nd U K) (x : Int) (hx : hR x) : Calls Try.prog 14 #[.pointer (some ⟨q, 0, none⟩), .int .u64 x] w (XE B q cf a m S nd U K (fun z => isA st z && decide (z ≠ x)) (.int .i64 (frAE x st)) w) := by
  refine (chfree_any B q cf a m st S w h.cr x hx).mono ?_
  rintro e w' ⟨he, S', h1, h2, h3⟩
  exact ⟨he, _, S', ⟨h1, h.ci.free h.pu hx, by rw [fr_len]; exact h.pg⟩, fun z hz => is_freed hz hx, h2, h3⟩
theorem xnew (cf : Conf) (m : Nat) (w : World) (hy : mayB cf = true) (hm : cf.vl = (m : Int)) (nd : Int → Nd) : Calls Try.prog 19 #[cf.val] w fun e w' => ∃ q a S, e = .returned (.tuple #[.pointer (some ⟨q, 0, none⟩), .int .i64 0]) ∧ CX w' w.heap.size q cf a m (0, [], []) S nd [] 0 ∧ Below w.heap.size w w' := by
  refine (chnew_any cf m w hy hm).mono ?_
  rintro e w' ⟨q, a, S, he, h1, h2⟩
  exact ⟨q, a, S, he, ⟨h1, CI.nil m nd, Nat.le_refl _⟩, h2⟩
def cS : Conf := ⟨2, 2, 3, 3, 9, 4, 3, 3⟩
theorem cS_may : mayB cS = true := by decide
set_option maxRecDepth 100000 in
set_option maxHeartbeats 4000000 in
theorem some_any (w : World) : Calls Try.prog 18 #[] w fun e w' => e = .returned cS.val ∧ Below w.heap.size w w' := by
  have hbt : Try.prog.built 43 [(0, .int .i64 2), (1, .int .i64 2), (2, .int .i64 3), (3, .int .i64 3), (4, .int .i64 9), (5, .int .i64 4), (6, .int .i64 3), (7, .int .i64 3)] = some #[.int .i64 2, .int .i64 2, .int .i64 3, .int .i64 3, .int .i64 9, .int .i64 4, .int .i64 3, .int .i64 3] := by kernel_rfl
  go_enter Try.func18, Try.ntmps18
  have HB : Hid (Below w.heap.size w (w.alloc (.cells #[.int .i64 2, .int .i64 2, .int .i64 3, .int .i64 3, .int .i64 9, .int .i64 4, .int .i64 3, .int .i64 3] 43))) := (Below.refl _ _).alloc (Nat.le_refl _) _
  go_wp2
  refine bodyPost_ret (results_cell_row rfl _ _ w.heap.size 43 _ (0, 0) _ rfl (heap_alloc_new _ _) Try.underlying43 rfl (by kernel_rfl)) rfl ?_
  exact ⟨rfl, HB.out⟩
end Go.Proofs.Ytbncpfkoeahhpaa
