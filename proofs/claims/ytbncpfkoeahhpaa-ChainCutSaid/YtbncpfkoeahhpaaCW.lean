/- Two engines; what a List tells behind a Cut, a Free. -/
import Derived.Test.YtbncpfkoeahhpaaCV
namespace Go.Proofs.Ytbncpfkoeahhpaa
open Go.ChangeShapes Go.WideShapes Go.ChangeAt Go.RowKit Go.Maps
set_option linter.unusedVariables false
set_option linter.unusedSimpArgs false

/-- two engines beside each other -/
structure TwoE (W : World) (B : Nat) (cf : Conf) (m : Nat) (q a : Nat) (st : AS) (S : Nat → Prop) (nd : Int → Nd) (U : List Int) (K : Nat) (q2 a2 : Nat) (st2 : AS) (S2 : Nat → Prop) (nd2 : Int → Nd) (U2 : List Int) (K2 : Nat) : Prop where
  a : CX W B q cf a m st S nd U K
  b : CX W B q2 cf a2 m st2 S2 nd2 U2 K2
  dis : ∀ k, S2 k → ¬ S k
section
variable {W W' : World} {B : Nat} {cf : Conf} {m q a q2 a2 K K2 K' : Nat} {st st' st2 : AS} {S S' S2 : Nat → Prop} {nd nd' nd2 : Int → Nd} {U U2 U' : List Int}
theorem TwoE.later (h : TwoE W B cf m q a st S nd U K q2 a2 st2 S2 nd2 U2 K2) (hb : Below W.heap.size W W') : TwoE W' B cf m q a st S nd U K q2 a2 st2 S2 nd2 U2 K2 := ⟨h.a.later hb, h.b.later hb, h.dis⟩
theorem TwoE.swap (h : TwoE W B cf m q a st S nd U K q2 a2 st2 S2 nd2 U2 K2) : TwoE W B cf m q2 a2 st2 S2 nd2 U2 K2 q a st S nd U K := ⟨h.b, h.a, fun k h1 h2 => h.dis k h2 h1⟩
theorem TwoE.stepA (h : TwoE W B cf m q a st S nd U K q2 a2 st2 S2 nd2 U2 K2) (hx : CX W' B q cf a m st' S' nd' U' K') (hs : ∀ k, S' k → S k ∨ W.heap.size ≤ k) (hf : FrS W W' S) : TwoE W' B cf m q a st' S' nd' U' K' q2 a2 st2 S2 nd2 U2 K2 :=
  ⟨hx, ⟨h.b.cr.fr hf h.dis (h.a.cr.ar.not h.b.cr.blk (by decide)), h.b.ci, h.b.pg⟩, fun k h2 h1 => by
    rcases hs k h1 with e | e
    · exact h.dis k h2 e
    · have := (h.b.cr.ar.lt k h2).2
      omega⟩
theorem TwoE.stepB (h : TwoE W B cf m q a st S nd U K q2 a2 st2 S2 nd2 U2 K2) (hx : CX W' B q2 cf a2 m st' S' nd' U' K') (hs : ∀ k, S' k → S2 k ∨ W.heap.size ≤ k) (hf : FrS W W' S2) : TwoE W' B cf m q a st S nd U K q2 a2 st' S' nd' U' K' := (h.swap.stepA hx hs hf).swap
def CpT (B : Nat) (cf : Conf) (m q a : Nat) (st : AS) (S : Nat → Prop) (nd : Int → Nd) (U : List Int) (K : Nat) (W : World) (e : Ending) (W' : World) : Prop := ∃ q2 a2 S2, e = .returned (.pointer (some ⟨q2, 0, none⟩)) ∧ TwoE W' B cf m q a st S nd U K q2 a2 st S2 nd U K ∧ Below W.heap.size W W'
theorem xcopy (h : CX W B q cf a m st S nd U K) (hB : B ≤ W.heap.size) : Calls Try.prog 17 #[.pointer (some ⟨q, 0, none⟩)] W (CpT B cf m q a st S nd U K W) := by
  refine (chcopy_any B q cf a m st S W h.cr).mono ?_
  rintro e W' ⟨q2, a2, S2, rfl, hc, hb⟩
  exact ⟨q2, a2, S2, rfl, ⟨h.later hb, ⟨hc.base hB, h.ci, h.pg⟩, fun k h2 h1 => by
    have e1 := (hc.ar.lt k h2).1
    have e2 := (h.cr.ar.lt k h1).2
    omega⟩, hb⟩
end
theorem slice38 (A : Option Addr) (m c k : Nat) (hk : k ≤ m) (hc : m ≤ c) (h0 : A = .none → m = 0 ∧ c = 0) (W : World) : (Instr.slice 38 (.slice A m c) .none (some (.int .i64 (k : Int))) .none).run Try.prog W = .ok (.slice A k c) W := by
  have ht' : Try.prog.underlying 38 = some (.slice (Try.prog.elem 38)) := by simp [Program.elem, Try.underlying38]
  have he : Try.prog.elem 38 = 29 := by simp [Program.elem, Try.underlying38]
  rw [run_slice_h W 38 _ _ _ ht' .i64 _ (by omega) (by omega), he, Try.sizeOf29]
  cases A with
  | none => simp [Result.andThen, sliced]
  | some a => by_cases e : c = 0 <;> simp [Result.andThen, sliced, Addr.add, e]
theorem rsl_take {W : World} {A : Option Addr} {n : Nat} {L : List Vn} (h : RSl vec 4 W A n L) {k : Nat} (hk : k ≤ n) : RSl vec 4 W A k (L.take k) :=
  ⟨by rw [List.length_take, h.1]; omega, fun hp => by
    obtain ⟨g, off, hA, hg, hc⟩ := h.2 (by omega)
    refine ⟨g, off, hA, hg, fun j x hx i hi => hc j x ?_ i hi⟩
    rw [List.getElem?_take] at hx
    split at hx
    · exact hx
    · cases hx⟩
section
variable {st st2 : AS} {nd nd2 : Int → Nd} {us : List Int} {L : List Vn} {n k : Nat}
theorem lsF_cut (h : Bd st nd us L n) (hn : n ≤ L.length) (hk : k < n) (hi : ∀ x, hR x → isA st2 x = isA st x) (hd : ∀ j, j < n → nd2 (us.getD j 0) = (L.getD j vn0, if j = k then 0 else topU us j)) : ∀ r, k + r < n → ∀ f, r + 1 ≤ f → lsF st2 nd2 f (us.getD (k + r) 0) = (bh L (k + r)).take (r + 1)
  | 0, hr, f + 1, _ => by
    obtain ⟨h1, h2⟩ := h.has hk
    show lsF st2 nd2 (f + 1) (us.getD k 0) = (bh L k).take 1
    rw [lsF, hi _ h1, h2, if_pos rfl, hd k hk, if_pos rfl]
    have h0 : isA st2 0 = false := by rw [hi 0 ⟨Int.le_refl _, by decide⟩]; exact h.zero
    show _ :: lsF st2 nd2 f 0 = _
    rw [lsF_dead h0]
    cases k with
    | zero => rw [bh_zero (by omega)]; rfl
    | succ k => rw [bh_succ (by omega)]; rfl
  | r + 1, hr, f + 1, hf => by
    obtain ⟨h1, h2⟩ := h.has (j := k + r + 1) hr
    rw [show k + (r + 1) = k + r + 1 by omega, lsF, hi _ h1, h2, if_pos rfl, hd (k + r + 1) hr, if_neg (by omega), bh_succ (by omega), List.take_succ_cons]
    show _ :: lsF st2 nd2 f (topU us (k + r + 1)) = _
    have e : topU us (k + r + 1) = us.getD (k + r) 0 := by unfold topU; rw [if_neg (by omega)]; rfl
    rw [e, lsF_cut h hn hk hi hd r (by omega) f (by omega)]
theorem lsF_gone (h : Bd st nd us L n) (hn : n ≤ L.length) (hk : k < n) (hi : ∀ x, hR x → isA st2 x = (isA st x && decide (x ≠ us.getD k 0))) : ∀ r, k + r < n → ∀ f, r ≤ f → lsF st2 nd f (us.getD (k + r) 0) = (bh L (k + r)).take r
  | 0, hr, f, _ => by
    obtain ⟨h1, h2⟩ := h.has hk
    show lsF st2 nd f (us.getD k 0) = (bh L k).take 0
    rw [lsF_dead (by rw [hi _ h1]; simp), List.take_zero]
  | r + 1, hr, f + 1, hf => by
    obtain ⟨h1, h2⟩ := h.has (j := k + r + 1) hr
    have hne := us_ne h.nod (i := k + r + 1) (j := k) (by rw [h.len]; omega) (by rw [h.len]; omega) (by omega)
    rw [show k + (r + 1) = k + r + 1 by omega, lsF, hi _ h1, h2, decide_eq_true hne, Bool.and_true, if_pos rfl, h.nd (k + r + 1) hr, bh_succ (by omega), List.take_succ_cons]
    show _ :: lsF st2 nd f (topU us (k + r + 1)) = _
    have e : topU us (k + r + 1) = us.getD (k + r) 0 := by unfold topU; rw [if_neg (by omega)]; rfl
    rw [e, lsF_gone h hn hk hi r (by omega) f (by omega)]
end
def RwJ (M : List Vn) (k : Nat) (W : World) (e : Ending) (W' : World) : Prop := ∃ A c, e = .returned (.slice A k c) ∧ RSl vec 4 W' A k M ∧ k ≤ c ∧ (A = none → k = 0 ∧ c = 0) ∧ Below W.heap.size W W'
theorem x_list {W : World} {B q a m K : Nat} {cf : Conf} {st : AS} {S : Nat → Prop} {nd : Int → Nd} {U : List Int} (h : CX W B q cf a m st S nd U K) {x : Int} (hx : hR x) {M : List Vn} {u k : Nat} (hu : usA st = u) (hl : lsF st nd u x = M) (hk : M.length = k) (hU : u ≤ 100000) : Calls Try.prog 15 #[.pointer (some ⟨q, 0, none⟩), .int .u64 x] W (RwJ M k W) := by
  have h1 := list_any B q cf a m st S nd U K W h.cr h.ci x hx (by omega)
  rw [hu, hl] at h1
  subst hk
  refine h1.mono ?_
  rintro e W' ⟨vb, rfl, ho, hb⟩
  obtain ⟨A, c, rfl, h2, h3⟩ := ho.sl
  exact ⟨A, c, rfl, ho.rsl vec_len, h2, h3, hb⟩
theorem x_behind {W : World} {A : Option Addr} {n c j : Nat} {L : List Vn} (hS : RSl vec 4 W A n L) (hj : j < n) (hn : n ≤ 100000) : Calls Try.prog 23 #[.slice A n c, .int .i64 (j : Int)] W (RwJ (bh L j) (j + 1) W) := by
  have hl := bh_len (L := L) (j := j) (by rw [hS.1]; exact hj)
  refine (behind_any A n c L j W hS hj hn).mono ?_
  rw [← hl]
  rintro e W' ⟨A2, c2, rfl, ho, hb⟩
  obtain ⟨A3, c3, e3, h2, h3⟩ := ho.sl
  cases e3
  exact ⟨A2, c2, rfl, ho.rsl vec_len, h2, h3, hb⟩
theorem x_used {W : World} {B q a m K n : Nat} {cf : Conf} {S : Nat → Prop} {st : AS} {nd : Int → Nd} {us : List Int} (h : CX W B q cf a m st S nd us K) (hu : usA st = n) {z : Int} (hz : z = (n : Int)) : Calls Try.prog 16 #[.pointer (some ⟨q, 0, none⟩)] W fun e w' => e = .returned (.int .i64 z) ∧ W = w' := by
  rw [hz]
  exact used_is h hu
theorem same_rows {W : World} {A A' : Option Addr} {k c c' : Nat} {M M' : List Vn} (hs : RSl vec 4 W A k M) (hu : RSl vec 4 W A' k M') (he : M = M') (hk : k ≤ 100000) : Calls Try.prog 22 #[.slice A k c, .slice A' k c'] W fun e W' => e = .returned (.bool true) ∧ Below W.heap.size W W' := by
  subst he
  exact same_lists hs hu hk
theorem count_ne {us : List Int} (hn : us.Nodup) {x : Int} (hx : x ∈ us) : us.countP (fun y => decide (y ≠ x)) = us.length - 1 := by
  induction us with
  | nil => cases hx
  | cons a us ih =>
    obtain ⟨h1, h2⟩ := List.nodup_cons.1 hn
    rw [List.countP_cons]
    by_cases e : a = x
    · subst e
      have e2 : us.countP (fun y => decide (y ≠ a)) = us.length := List.countP_eq_length.2 (fun y hy => by
        rw [decide_eq_true_eq]
        exact fun (e : y = a) => h1 (e ▸ hy))
      rw [e2]
      simp
    · have hx2 : x ∈ us := by
        rcases List.mem_cons.1 hx with q | q
        · exact absurd q.symm e
        · exact q
      rw [ih h2 hx2, decide_eq_true e, if_pos rfl, List.length_cons]
      have := List.length_pos_of_mem hx2
      omega
/-- two engines, the handles, a row -/
structure P4 (w W : World) (cf : Conf) (m q a : Nat) (st : AS) (S : Nat → Prop) (nd : Int → Nd) (us : List Int) (n q2 a2 : Nat) (st2 : AS) (S2 : Nat → Prop) (nd2 : Int → Nd) (gU cU : Nat) (A6 : Option Addr) (FL : List Vn) : Prop where
  tw : TwoE W w.heap.size cf m q a st S nd us n q2 a2 st2 S2 nd2 us n
  ow : Ow hv W w.heap.size 24 (.slice (some ⟨gU, 0, none⟩) n cU) n us
  fl : RSl vec 4 W A6 n FL
  lo : Below w.heap.size w W
theorem P4.later {w W W' : World} {cf : Conf} {m q a : Nat} {st : AS} {S : Nat → Prop} {nd : Int → Nd} {us : List Int} {n q2 a2 : Nat} {st2 : AS} {S2 : Nat → Prop} {nd2 : Int → Nd} {gU cU : Nat} {A6 : Option Addr} {FL : List Vn} (h : P4 w W cf m q a st S nd us n q2 a2 st2 S2 nd2 gU cU A6 FL) (hb : Below W.heap.size W W') : P4 w W' cf m q a st S nd us n q2 a2 st2 S2 nd2 gU cU A6 FL := ⟨h.tw.later hb, h.ow.later hb, h.fl.later hb, stepB h.lo hb⟩
end Go.Proofs.Ytbncpfkoeahhpaa
