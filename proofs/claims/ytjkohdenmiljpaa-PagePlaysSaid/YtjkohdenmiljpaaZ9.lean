/- Both pages, and two that are these or copies. -/
import Derived.Test.YtjkohdenmiljpaaZ8
namespace Go.Proofs.Ytjkohdenmiljpaa
open Go.ChangeShapes Go.WideShapes Go.ChangeAt Go.RowKit Go.Maps
set_option linter.unusedVariables false
set_option linter.unusedSimpArgs false

theorem Dx.keepB {W W' : World} {B q s : Nat} {Bs : List ByteArray} {Us : List Bool} {Bk : List Nat} {vB vU vK : Value} (h : Dx W B q s Bs Us Bk vB vU vK) (hz : W.heap.size ≤ W'.heap.size) (hk : ∀ k, B ≤ k → k < W.heap.size → W'.heap[k]? = W.heap[k]?) : Dx W' B q s Bs Us Bk vB vU vK := by
  have hl := h.lt
  have hrow : ∀ {e : TypeId} {α : Type} {enc : α → Value} {v : Value} {n : Nat} {xs : List α}, Ow enc W B e v n xs → Ow enc W' B e v n xs := fun o => by
    refine ⟨o.1, ?_⟩
    rcases o.2 with h1 | ⟨g, cap, cur, e, hB, hg, rest⟩
    · exact .inl h1
    · exact .inr ⟨g, cap, cur, e, hB, (hk g hB (Array.getElem?_eq_some_iff.1 hg).1).trans hg, rest⟩
  exact ⟨h.hq, (hk q h.hq hl.1).trans h.blk, hrow h.oB, hrow h.oU, h.oK.keep hz (fun k e => hk k (hl.2.2.2 k e).1 (hl.2.2.2 k e).2)⟩
theorem PgS.keepB {W W' : World} {B p b s : Nat} {st : PS} (h : PgS W B p b s st) (hk : ∀ k, B ≤ k → k < W.heap.size → W'.heap[k]? = W.heap[k]?) : PgS W' B p b s st := by
  have ha := Pg.at_ h
  refine ⟨⟨ha.hp, (hk p ha.hp ha.plt).trans ha.blk, ⟨ha.own.1, ?_⟩, ha.ok, ha.len⟩, Pg.inv h⟩
  obtain ⟨es, clock, hm, r⟩ := ha.own.2
  exact ⟨es, clock, (hk b ha.own.1 ha.blt).trans hm, r⟩
/-- a page and the document's -/
def Pr (W : World) (B p b q s : Nat) (st : PS) : Prop := PgS W B p b s st ∧ ∃ Bs Us Bk vB vU vK, Dx W B q s Bs Us Bk vB vU vK ∧ Rel s st Bs Us Bk
theorem Pr.later {W W' : World} {B p b q s : Nat} {st : PS} (h : Pr W B p b q s st) (hb : Below W.heap.size W W') : Pr W' B p b q s st := by
  obtain ⟨h1, Bs, Us, Bk, vB, vU, vK, h2, h3⟩ := h
  exact ⟨h1.later hb, Bs, Us, Bk, vB, vU, vK, h2.later hb, h3⟩
theorem Pr.base {W : World} {B B' p b q s : Nat} {st : PS} (h : Pr W B p b q s st) (hb : B' ≤ B) : Pr W B' p b q s st := by
  obtain ⟨h1, Bs, Us, Bk, vB, vU, vK, h2, h3⟩ := h
  exact ⟨h1.base hb, Bs, Us, Bk, vB, vU, vK, h2.base hb, h3⟩
theorem Pr.keepB {W W' : World} {B p b q s : Nat} {st : PS} (h : Pr W B p b q s st) (hz : W.heap.size ≤ W'.heap.size) (hk : ∀ k, B ≤ k → k < W.heap.size → W'.heap[k]? = W.heap[k]?) : Pr W' B p b q s st := by
  obtain ⟨h1, Bs, Us, Bk, vB, vU, vK, h2, h3⟩ := h
  exact ⟨h1.keepB hk, Bs, Us, Bk, vB, vU, vK, h2.keepB hz hk, h3⟩
/-- both, and two that are these, or copies in newer memory -/
def All (w W : World) (p b q s : Nat) (st : PS) (pc qc : Nat) : Prop :=
  ∃ Bs Us Bk vB vU vK, PgS W w.heap.size p b s st ∧ Dx W w.heap.size q s Bs Us Bk vB vU vK ∧ Rel s st Bs Us Bk ∧ Below w.heap.size w W ∧
    ((pc = p ∧ qc = q) ∨ ∃ B2 bc, Pr W B2 pc bc qc s st ∧ w.heap.size ≤ B2 ∧ p < B2 ∧ b < B2 ∧ q < B2 ∧ (∀ k, vB.ownBlock = some k → k < B2) ∧ (∀ k, vU.ownBlock = some k → k < B2))
theorem All.same {w W : World} {p b q s : Nat} {st : PS} (h : Pr W w.heap.size p b q s st) (hb : Below w.heap.size w W) : All w W p b q s st p q := by
  obtain ⟨h1, Bs, Us, Bk, vB, vU, vK, h2, h3⟩ := h
  exact ⟨Bs, Us, Bk, vB, vU, vK, h1, h2, h3, hb, .inl ⟨rfl, rfl⟩⟩
/-- behind a step on both -/
theorem All.done {w W W' : World} {p b q s : Nat} {st st' : PS} {pc qc : Nat} {Bs : List ByteArray} {Us : List Bool} {Bk : List Nat} {vB vU vK : Value} (h1 : PgS W w.heap.size p b s st) (h2 : Dx W w.heap.size q s Bs Us Bk vB vU vK) (hb : Below w.heap.size w W)
    (h : (pc = p ∧ qc = q) ∨ ∃ B2 bc, Pr W B2 pc bc qc s st ∧ w.heap.size ≤ B2 ∧ p < B2 ∧ b < B2 ∧ q < B2 ∧ (∀ k, vB.ownBlock = some k → k < B2) ∧ (∀ k, vU.ownBlock = some k → k < B2))
    (hn : Pr W' w.heap.size p b q s st') (hf : FrP W W' p b q vB vU) : Below w.heap.size w W' ∧ ∃ bc st2, Pr W' w.heap.size pc bc qc s st2 := by
  have ha := Pg.at_ h1
  have hl := h2.lt
  refine ⟨hf.below hb hb.size ⟨ha.hp, ha.own.1, h2.hq⟩ (fun k e => (hl.2.1 k e).1) (fun k e => (hl.2.2.1 k e).1), ?_⟩
  rcases h with ⟨rfl, rfl⟩ | ⟨B2, bc, hp, hw, a1, a2, a3, a4, a5⟩
  · exact ⟨_, _, hn⟩
  · exact ⟨bc, st, (hp.keepB hf.size (fun k h1 h2 => hf.block k h2 (by omega) (by omega) (by omega) (fun e => by have := a4 k e; omega) (fun e => by have := a5 k e; omega))).base hw⟩
/-- what the two tell -/
theorem pr_used {W : World} {B p b q s : Nat} {st : PS} (h : Pr W B p b q s st) : Calls Try.prog 15 #[.pointer (some ⟨p, 0, none⟩)] W (fun x w' => x = .returned (.int .i64 (st.2.1.length : Nat)) ∧ W = w') ∧ Calls Try.prog 24 #[.pointer (some ⟨q, 0, none⟩)] W (fun e w' => e = .returned (.int .i64 (st.2.1.length : Nat)) ∧ W = w') := by
  obtain ⟨h1, Bs, Us, Bk, vB, vU, vK, h2, h3⟩ := h
  exact ⟨used_any _ _ _ _ _ _ _ _ W (Pg.at_ h1), dused_any _ _ _ _ _ _ _ _ _ _ W h2 h3 h1.inv⟩
theorem pr_room {W : World} {B p b q s : Nat} {st : PS} (h : Pr W B p b q s st) (hs : s ≤ 4096) : Calls Try.prog 16 #[.pointer (some ⟨p, 0, none⟩)] W (fun e w' => e = .returned (.int .i64 (((4096 / s : Nat) : Int) - (st.2.1.length : Nat))) ∧ Below W.heap.size W w') ∧ Calls Try.prog 25 #[.pointer (some ⟨q, 0, none⟩)] W (fun e w' => e = .returned (.int .i64 (((4096 / s : Nat) : Int) - (st.2.1.length : Nat))) ∧ Below W.heap.size W w') := by
  obtain ⟨h1, Bs, Us, Bk, vB, vU, vK, h2, h3⟩ := h
  exact ⟨room_pg _ _ _ _ _ _ _ _ W h1 hs, droom_any _ _ _ _ _ _ _ _ _ _ W h2 h3 h1.inv hs⟩
theorem pr_read {W : World} {B p b q s : Nat} {st : PS} (h : Pr W B p b q s st) (x : Int) (h0 : 0 ≤ x) (h1 : x ≤ 65535) : Calls Try.prog 10 #[.pointer (some ⟨p, 0, none⟩), .int .u16 x] W (fun e w' => e = .returned (.tuple #[.string (rdT s x st), .int .i64 (rdE x st)]) ∧ Below W.heap.size W w') ∧ Calls Try.prog 26 #[.pointer (some ⟨q, 0, none⟩), .int .u16 x] W (fun e w' => e = .returned (.tuple #[.string (rdT s x st), .int .i64 (rdE x st)]) ∧ W = w') := by
  obtain ⟨hp, Bs, Us, Bk, vB, vU, vK, h2, h3⟩ := h
  exact ⟨rd_any _ _ _ _ _ W hp x (wf16 h0 h1), dread_any _ _ _ _ _ _ _ _ _ _ x W h2 h3 hp.inv h0 h1⟩
theorem pr_is {W : World} {B p b q s : Nat} {st : PS} (h : Pr W B p b q s st) (x : Int) (h0 : 0 ≤ x) (h1 : x ≤ 65535) : Calls Try.prog 14 #[.pointer (some ⟨p, 0, none⟩), .int .u16 x] W (fun e w' => e = .returned (.bool (isC st.2.1 x)) ∧ Below W.heap.size W w') ∧ Calls Try.prog 27 #[.pointer (some ⟨q, 0, none⟩), .int .u16 x] W (fun e w' => e = .returned (.bool (isC st.2.1 x)) ∧ W = w') := by
  obtain ⟨hp, Bs, Us, Bk, vB, vU, vK, h2, h3⟩ := h
  exact ⟨is_any _ _ _ _ _ _ _ _ x W (Pg.at_ hp) (wf16 h0 h1), dis_any _ _ _ _ _ _ _ _ _ _ x W h2 h3 hp.inv h0 h1⟩
end Go.Proofs.Ytjkohdenmiljpaa
