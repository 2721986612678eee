/- Models side by side: whose is which block. -/
import Derived.Test.YtoinjnocopejjaaWO
import Derived.Test.YtoinjnocopejjaaRT
namespace Go.Proofs.Ytoinjnocopejjaa
open Go.ChangeShapes Go.WideShapes Go.ChangeAt Go.RowKit Go.Maps
set_option linter.unusedVariables false
set_option linter.unusedSimpArgs false
/-- a model whose blocks are told by own -/
def MQ_ (W : World) (B : Nat) (own : Nat → Nat) (p : Nat) (s : MS) : Prop := ∃ S, MR W B p s S ∧ ∀ k, S k → own k = p
/-- what is no model's stays -/
structure Kp (W W' : World) : Prop where
  sz : W.heap.size ≤ W'.heap.size
  blk : ∀ (q : Nat) (c : Array Value) (t : TypeId), Blk W q c t → t ≠ 110 → t ≠ 112 → t ≠ 85 → t ≠ 3 → Blk W' q c t
theorem Kp.of_below {W W' : World} (h : Below W.heap.size W W') : Kp W W' := ⟨h.size, fun q c t hb _ _ _ _ => hb.later h⟩
theorem Kp.trans {W W' W2 : World} (h : Kp W W') (k : Kp W' W2) : Kp W W2 := ⟨Nat.le_trans h.sz k.sz, fun q c t hb h1 h2 h3 h4 => k.blk q c t (h.blk q c t hb h1 h2 h3 h4) h1 h2 h3 h4⟩
section
variable {W W' : World} {B p : Nat} {own : Nat → Nat} {s : MS}
theorem MQ_.later (h : MQ_ W B own p s) (hb : Below W.heap.size W W') : MQ_ W' B own p s := by
  obtain ⟨S, h1, h2⟩ := h
  exact ⟨S, h1.later hb, h2⟩
theorem MQ_.ok (h : MQ_ W B own p s) : OkM s := by obtain ⟨S, h1, _⟩ := h; exact h1.ok
theorem MQ_.own' (h : MQ_ W B own p s) {own' : Nat → Nat} (ho : ∀ k, k < W.heap.size → own' k = own k) : MQ_ W B own' p s := by
  obtain ⟨S, h1, h2⟩ := h
  exact ⟨S, h1, fun k hk => (ho k (h1.lt k hk).2).trans (h2 k hk)⟩
theorem ROwn.kp {α : Type} {enc : α → List Value} {k e n : Nat} {v : Value} {L : List α} (h : ROwn enc k W B e v n L) (hk : Kp W W') (h1 : e ≠ 110) (h2 : e ≠ 112) (h3 : e ≠ 85) (h4 : e ≠ 3) : ROwn enc k W' B e v n L :=
  h.keepS (fun i hi => by
    obtain ⟨cur, hc⟩ := h.tag i hi
    exact (hk.blk i cur e hc h1 h2 h3 h4).trans hc.symm)
/-- own behind a turn of the model at p -/
def ownT (W : World) (own : Nat → Nat) (p : Nat) : Nat → Nat := fun k => if k < W.heap.size then own k else p
theorem ownT_lt {k : Nat} (h : k < W.heap.size) : ownT W own p k = own k := if_pos h
theorem MQ_.moved (h : MQ_ W B own p s) {s' : MS} {S : Nat → Prop} (h1 : MR W B p s S) (h2 : ∀ k, S k → own k = p) (hm : Mv s' B p S W W') :
    MQ_ W' B (ownT W own p) p s' ∧ (∀ p' t, p' ≠ p → MQ_ W B own p' t → MQ_ W' B (ownT W own p) p' t) ∧ Kp W W' ∧ (∀ n0 w0, Below n0 w0 W → n0 ≤ B → Below n0 w0 W') := by
  obtain ⟨S', m1, hf, hs⟩ := hm
  refine ⟨⟨S', m1, fun k hk => ?_⟩, fun p' t hne hq => ?_, ⟨hf.size, fun q c t hb e1 e2 e3 e4 => hf.blk hb (h1.out hb e1 e2 e3 e4)⟩, fun n0 w0 hb hB => hf.below hb (Nat.le_trans hB ?_) (fun i hi => Nat.le_trans hB (h1.lt i hi).1)⟩
  · unfold ownT
    split
    · rename_i hlt
      rcases hs k hk with e | e
      · exact h2 k e
      · omega
    · rfl
  · obtain ⟨S2, q1, q2⟩ := hq
    refine ⟨S2, q1.fr hf (fun k hk e => hne ((q2 k hk).symm.trans (h2 k e))) (fun k hk _ => h1.tags k hk), fun k hk => (ownT_lt (q1.lt k hk).2).trans (q2 k hk)⟩
  · obtain ⟨S2, q1, _⟩ := h
    obtain ⟨x, hx, rfl⟩ := q1
    have := hx.lt p (.inl rfl)
    omega
theorem MQ_.new {S : Nat → Prop} (h1 : MR W' W.heap.size p s S) (hB : B ≤ W.heap.size) : MQ_ W' B (ownT W own p) p s :=
  ⟨S, h1.base hB, fun k hk => if_neg (by have := (h1.lt k hk).1; omega)⟩
theorem MR.self {S : Nat → Prop} (h : MR W B p s S) : S p := by obtain ⟨x, _, rfl⟩ := h; exact .inl rfl
theorem MQ_.self (h : MQ_ W B own p s) : own p = p ∧ B ≤ p ∧ p < W.heap.size := by
  obtain ⟨S, h1, h2⟩ := h
  have := h1.lt p h1.self
  exact ⟨h2 p h1.self, this⟩
end
/-- a call's answer, where it lies -/
def ansV (a : As) (A : Option Addr) (c : Nat) : Array Value := #[.int .i64 a.1, .bool a.2.1, .string a.2.2.1, .slice A a.2.2.2.length c]
def DoE (B : Nat) (own : Nat → Nat) (p : Nat) (s' : MS) (a : As) (w : World) (e : Ending) (w' : World) : Prop :=
  ∃ A c, e = .returned (.agg #[.int .i64 a.1, .bool a.2.1, .string a.2.2.1, .slice A a.2.2.2.length c]) ∧ ROwn pvc 2 w' w.heap.size 129 (.slice A a.2.2.2.length c) a.2.2.2.length a.2.2.2 ∧ MQ_ w' B (ownT w own p) p s' ∧ (∀ p' t, p' ≠ p → MQ_ w B own p' t → MQ_ w' B (ownT w own p) p' t) ∧ Kp w w' ∧ (∀ n0 w0, Below n0 w0 w → n0 ≤ B → Below n0 w0 w')
theorem mq_do {W : World} {B p : Nat} {own : Nat → Nat} {s : MS} (h : MQ_ W B own p s) (t : Int) (tx li : Int) (ke en va : ByteArray) (kn eg : Nat) (hn : s.txns.length ≤ 100000) (hx : COk (kn, tx, ke, en, va, li, eg)) :
    Calls Try.prog 18 #[.pointer (some ⟨p, 0, none⟩), .int .i64 t, .agg #[.int .u8 (kn : Int), .int .i64 tx, .string ke, .string en, .string va, .int .i64 li, .int .u8 (eg : Int)]] W (DoE B own p (doM s t (kn, tx, ke, en, va, li, eg)).1 (doM s t (kn, tx, ke, en, va, li, eg)).2 W) := by
  obtain ⟨S, h1, h2⟩ := h
  refine (do_any B p s S t tx li ke en va kn eg W h1 hn hx).mono ?_
  rintro e w' ⟨v, rfl, hro, hmv⟩
  obtain ⟨A, c, rfl, _, _⟩ := hro.sl
  obtain ⟨m1, m2, m3, m4⟩ := MQ_.moved ⟨S, h1, h2⟩ h1 h2 hmv
  exact ⟨A, c, rfl, hro, m1, m2, m3, m4⟩
theorem MQ_.frame {W W' : World} {B p q : Nat} {own : Nat → Nat} {s : MS} {c : Array Value} {t : TypeId} (h : MQ_ W B own p s) (hb : Blk W q c t) (h1 : t ≠ 110) (h2 : t ≠ 112) (h3 : t ≠ 85) (h4 : t ≠ 3) (h5 : t ≠ 26) (hk : ∀ k, k ≠ q → W'.heap[k]? = W.heap[k]?) : MQ_ W' B own p s := by
  obtain ⟨S, ⟨x, hx, rfl⟩, h6⟩ := h
  refine ⟨_, ⟨x, hx.keepS (fun k hk2 => hk k (fun e => (MR.out ⟨x, hx, rfl⟩ hb h1 h2 h3 h4) (e ▸ hk2))) (fun g cur hg => hk g (fun e => ?_)), rfl⟩, h6⟩
  subst e
  have hb : W.heap[g]? = some (.cells c t (0, 0)) := hb
  rw [hb] at hg
  simp only [Option.some.injEq, Obj.cells.injEq] at hg
  exact h5 hg.2.1
theorem MQ_.setRow {W : World} {B p q : Nat} {own : Nat → Nat} {s : MS} {c c2 : Array Value} {t : TypeId} (h : MQ_ W B own p s) (hb : Blk W q c t) (h1 : t ≠ 110) (h2 : t ≠ 112) (h3 : t ≠ 85) (h4 : t ≠ 3) (h5 : t ≠ 26) : MQ_ (W.setRow q c2) B own p s :=
  h.frame hb h1 h2 h3 h4 h5 (fun k hne => setRow_other' W q k c2 hne)
theorem ROwn.setRow {α : Type} {enc : α → List Value} {k e n B q : Nat} {v : Value} {L : List α} {W : World} {c c2 : Array Value} {t : TypeId} (h : ROwn enc k W B e v n L) (hb : Blk W q c t) (hne : t ≠ e) : ROwn enc k (W.setRow q c2) B e v n L :=
  h.keepS (fun i hi => setRow_other' W q i c2 (fun e2 => h.nq hb hne (e2 ▸ hi)))
theorem pairs_le (s : MS) (t : Int) (x : Cl) : ((doM s t x).2.2.2.2).length ≤ 128 := by
  unfold doM
  split
  · exact Nat.zero_le _
  · rename_i hr
    have hfit := (refM_0 (show refM s t x = 0 by omega)).2.2.2.1
    generalize txW s t x.2.1 = w
    unfold actM
    split
    · split <;> exact Nat.zero_le _
    · simp only; split <;> exact Nat.zero_le _
    · split
      · exact Nat.zero_le _
      split <;> exact Nat.zero_le _
    · split
      · exact Nat.zero_le _
      split
      · exact Nat.zero_le _
      split <;> exact Nat.zero_le _
    · rename_i hk2
      unfold fitsM at hfit
      rw [if_neg (by omega), if_neg (by omega), if_pos hk2] at hfit
      simp only [Bool.and_eq_true] at hfit
      have h0 := of_decide_eq_true hfit.2.2.1
      have h1 := of_decide_eq_true hfit.2.2.2
      show (scanP s w x.2.2.1 x.2.2.2.1 x.2.2.2.2.2.1 s.rows []).length ≤ 128
      rw [scanP_eq s w _ _ h0 _ _ (by simpa using h0), List.length_take]
      omega
    · split
      · exact Nat.zero_le _
      split <;> exact Nat.zero_le _
    · exact Nat.zero_le _
    · exact Nat.zero_le _
    · exact Nat.zero_le _
def PairAt (w0 W : World) (p1 p2 : Nat) (s1 s2 : MS) (a1 a2 : As) (v1 v2 : Value) : Prop := ∃ (own : Nat → Nat) (pa pb : Nat) (A1 A2 : Option Addr) (c1 c2 : Nat), v1 = .pointer (some ⟨pa, 0, none⟩) ∧ v2 = .pointer (some ⟨pb, 0, none⟩) ∧ Blk W pa (ansV a1 A1 c1) 33 ∧ Blk W pb (ansV a2 A2 c2) 33 ∧
  ROwn pvc 2 W w0.heap.size 129 (.slice A1 a1.2.2.2.length c1) a1.2.2.2.length a1.2.2.2 ∧ ROwn pvc 2 W w0.heap.size 129 (.slice A2 a2.2.2.2.length c2) a2.2.2.2.length a2.2.2.2 ∧ MQ_ W w0.heap.size own p1 s1 ∧ MQ_ W w0.heap.size own p2 s2 ∧ Below w0.heap.size w0 W
theorem mq_do' {W : World} {B p : Nat} {own : Nat → Nat} {s : MS} (h : MQ_ W B own p s) (t : Int) (tx li : Int) (ke en va : ByteArray) (kn eg : Nat) (kI eI : Int) (hk : kI = kn) (he : eI = eg) (hn : s.txns.length ≤ 100000) (hx : COk (kn, tx, ke, en, va, li, eg)) :
    Calls Try.prog 18 #[.pointer (some ⟨p, 0, none⟩), .int .i64 t, .agg #[.int .u8 kI, .int .i64 tx, .string ke, .string en, .string va, .int .i64 li, .int .u8 eI]] W (DoE B own p (doM s t (kn, tx, ke, en, va, li, eg)).1 (doM s t (kn, tx, ke, en, va, li, eg)).2 W) := by
  subst hk he
  exact mq_do h t tx li ke en va kn eg hn hx
theorem mq_clock {W : World} {B p : Nat} {own : Nat → Nat} {s : MS} (h : MQ_ W B own p s) : Calls Try.prog 24 #[.pointer (some ⟨p, 0, none⟩)] W fun e w' => e = .returned (.int .i64 s.clock) ∧ W = w' := by
  obtain ⟨S, h1, _⟩ := h; exact clock_any B p s S W h1
theorem mq_floor {W : World} {B p : Nat} {own : Nat → Nat} {s : MS} (h : MQ_ W B own p s) : Calls Try.prog 25 #[.pointer (some ⟨p, 0, none⟩)] W fun e w' => e = .returned (.int .i64 s.floor) ∧ W = w' := by
  obtain ⟨S, h1, _⟩ := h; exact floor_any B p s S W h1
theorem mq_active {W : World} {B p : Nat} {own : Nat → Nat} {s : MS} (h : MQ_ W B own p s) (hn : s.txns.length ≤ 100000) : Calls Try.prog 23 #[.pointer (some ⟨p, 0, none⟩)] W fun e w' => e = .returned (.int .i64 (actN s.txns : Nat)) ∧ Below W.heap.size W w' := by
  obtain ⟨S, h1, _⟩ := h; exact active_any B p s S W h1 hn
theorem mq_retained {W : World} {B p : Nat} {own : Nat → Nat} {s : MS} (h : MQ_ W B own p s) : Calls Try.prog 22 #[.pointer (some ⟨p, 0, none⟩)] W fun e w' => e = .returned (.int .i64 (sumK retR s.rows : Nat)) ∧ Below W.heap.size W w' := by
  obtain ⟨S, h1, _⟩ := h; exact retained_all B p s S W h1
theorem mq_keys {W : World} {B p : Nat} {own : Nat → Nat} {s : MS} (h : MQ_ W B own p s) : Calls Try.prog 21 #[.pointer (some ⟨p, 0, none⟩)] W (KeysEnd (s.rows.map (·.1)) W) := by
  obtain ⟨S, h1, _⟩ := h; exact keys_any B p s S W h1
theorem mq_versions {W : World} {B p : Nat} {own : Nat → Nat} {s : MS} (h : MQ_ W B own p s) (k : ByteArray) (hk : k.size ≤ maxLen) : Calls Try.prog 20 #[.pointer (some ⟨p, 0, none⟩), .string k] W (VsEnd (getR s k).1 W) := by
  obtain ⟨S, h1, _⟩ := h; exact versions_any B p s S k W h1 hk
theorem mq_intent {W : World} {B p : Nat} {own : Nat → Nat} {s : MS} (h : MQ_ W B own p s) (k : ByteArray) (hk : k.size ≤ maxLen) : Calls Try.prog 16 #[.pointer (some ⟨p, 0, none⟩), .string k] W (RdEnd (getR s k).2 (decide ((getR s k).2.w > 0)) W) := by
  obtain ⟨S, h1, _⟩ := h; exact intent_any B p s S k W h1 hk
end Go.Proofs.Ytoinjnocopejjaa
