/- Contracts of known data, for the examples. -/
import Derived.Test.YtiojjpmkiljngaaI1
import Derived.Test.YtiojjpmkiljngaaI2
import Derived.Test.YtiojjpmkiljngaaI3
import Derived.Test.YtiojjpmkiljngaaI4
import Derived.Test.YtiojjpmkiljngaaJ1
import Derived.Test.YtiojjpmkiljngaaJ2
import Derived.Test.YtiojjpmkiljngaaJ4
import Derived.Test.YtiojjpmkiljngaaE
namespace Go.Proofs.Ytiojjpmkiljngaa
open Go.ChangeShapes Go.WideShapes Go.ChangeAt Go.RowKit
set_option linter.unusedVariables false
set_option linter.unusedSimpArgs false
def NodeEnd (lf : Bool) (n m k : Nat) (xs : List ByteArray) (ks rs : List Int) (code : Int) (w : World) (x : Ending) (w' : World) : Prop := ∃ A B C c d e, x = .returned (.tuple #[.agg #[.bool lf, .slice A n c, .slice B m d, .slice C k e], .int .i64 code]) ∧ Nd w' A B C n c m d k e xs ks rs ∧ Below w.heap.size w w'
theorem node_of {lf : Bool} {xs : List ByteArray} {ks rs : List Int} {code : Int} {w : World} {x : Ending} {w' : World} (h : NdEnd lf xs ks rs code w x w') {n m k : Nat} (h1 : xs.length = n) (h2 : ks.length = m) (h3 : rs.length = k) (hz : n + m + k ≤ 200000) : NodeEnd lf n m k xs ks rs code w x w' := by
  obtain ⟨v, rfl, ho, hb⟩ := h
  obtain ⟨A, B, C, c, d, e, rfl, hn⟩ := ho.nd (by omega)
  subst h1 h2 h3
  exact ⟨A, B, C, c, d, e, rfl, hn, hb⟩
def TwoEnd (lf : Bool) (n m k : Nat) (xs : List ByteArray) (ks rs : List Int) (n' m' k' : Nat) (ys : List ByteArray) (js ss : List Int) (up : ByteArray) (w : World) (x : Ending) (w' : World) : Prop := ∃ A B C c d e A' B' C' c' d' e', x = .returned (.tuple #[.agg #[.bool lf, .slice A n c, .slice B m d, .slice C k e], .agg #[.bool lf, .slice A' n' c', .slice B' m' d', .slice C' k' e'], .string up, .int .i64 0]) ∧ Nd w' A B C n c m d k e xs ks rs ∧ Nd w' A' B' C' n' c' m' d' k' e' ys js ss ∧ Below w.heap.size w w'
theorem two_of {lf : Bool} {xs : List ByteArray} {ks rs : List Int} {ys : List ByteArray} {js ss : List Int} {up : ByteArray} {w : World} {x : Ending} {w' : World} (h : SplEnd lf xs ks rs ys js ss up 0 w x w') {n m k n' m' k' : Nat} (h1 : xs.length = n) (h2 : ks.length = m) (h3 : rs.length = k) (g1 : ys.length = n') (g2 : js.length = m') (g3 : ss.length = k') (hz : n + m + k ≤ 200000) (hy : n' + m' + k' ≤ 200000) : TwoEnd lf n m k xs ks rs n' m' k' ys js ss up w x w' := by
  obtain ⟨v, v', rfl, ho, ho', hb⟩ := h
  obtain ⟨A, B, C, c, d, e, rfl, hn⟩ := ho.nd (by omega)
  obtain ⟨A', B', C', c', d', e', rfl, hn'⟩ := ho'.nd (by omega)
  subst h1 h2 h3 g1 g2 g3
  exact ⟨A, B, C, c, d, e, A', B', C', c', d', e', rfl, hn, hn', hb⟩
section
variable {lf : Bool} {A B C : Option Addr} {n c m d k e : Nat} {xs : List ByteArray} {ks rs : List Int} {w : World}
theorem place_c (key : ByteArray) (l : Nat) (b : Bool) (hN : Nd w A B C n c m d k e xs ks rs) (hM : mayB lf xs m k = true) (hl : lowN xs key = l) (hb : hasB xs key = b) :
    Calls Try.prog 12 #[.agg #[.bool lf, .slice A n c, .slice B m d, .slice C k e], .string key] w fun x w' => x = .returned (.tuple #[.int .i64 (l : Nat), .bool b]) ∧ Below w.heap.size w w' := by
  have := Place_any lf A B C n c m d k e xs key w hN.K.rd (by have := hN.sz; omega) (by have := hN.sz; omega) (by have := hN.sz; omega)
  rw [hM, if_pos rfl, hl, hb] at this
  exact this
theorem kid_c (key : ByteArray) (l : Nat) (hN : Nd w A B C n c m d k e xs ks rs) (hM : mayB false xs m k = true) (hl : kidN xs key = l) :
    Calls Try.prog 11 #[.agg #[.bool false, .slice A n c, .slice B m d, .slice C k e], .string key] w fun x w' => x = .returned (.int .i64 (l : Nat)) ∧ Below w.heap.size w w' := by
  have := Kid_any false A B C n c m d k e xs key w hN.K.rd (by have := hN.sz; omega) (by have := hN.sz; omega) (by have := hN.sz; omega)
  rw [hM, show (!false && true) = true from rfl, if_pos rfl, hl] at this
  exact this
theorem fence_c (kid : Int) (s : ByteArray) (b : Bool) (hN : Nd w A B C n c m d k e xs ks rs) (h1 : fence lf xs m k kid = s) (h2 : fenceB lf xs m k kid = b) :
    Calls Try.prog 18 #[.agg #[.bool lf, .slice A n c, .slice B m d, .slice C k e], .int .i64 kid] w fun x w' => x = .returned (.tuple #[.string s, .bool b]) ∧ Below w.heap.size w w' := by
  have := Fence_any lf A B C n c m d k e xs kid w hN.K.rd (by have := hN.sz; omega) (by have := hN.sz; omega) (by have := hN.sz; omega)
  unfold FenceEnd at this
  rw [h1, h2] at this
  exact this
theorem put_c (key : ByteArray) (row : Int) {X : List ByteArray} {R : List Int} {n' k' : Nat} (hN : Nd w A B C n c m d k e xs ks rs) (hM : mayB true xs m k = true) (hH : hasB xs key = false) (hX : xs.take (lowN xs key) ++ ([key] ++ xs.drop (lowN xs key)) = X) (hR : rs.take (lowN xs key) ++ ([row] ++ rs.drop (lowN xs key)) = R) (h1 : X.length = n') (h3 : R.length = k') (hz : n' + k' ≤ 200000) :
    Calls Try.prog 13 #[.agg #[.bool true, .slice A n c, .slice B m d, .slice C k e], .string key, .int .u64 row] w (NodeEnd true n' 0 k' X [] R 0 w) := by
  have := put_ok A B C n c m d k e xs ks rs key row w hN hM hH
  rw [hX, hR] at this
  exact this.mono fun x w' h => node_of h h1 rfl h3 (by omega)
theorem graft_c (key : ByteArray) (kid : Int) {X : List ByteArray} {R : List Int} {n' k' : Nat} (hN : Nd w A B C n c m d k e xs ks rs) (hM : mayB false xs m k = true) (hH : hasB xs key = false) (hX : xs.take (lowN xs key) ++ ([key] ++ xs.drop (lowN xs key)) = X) (hR : ks.take (lowN xs key + 1) ++ ([kid] ++ ks.drop (lowN xs key + 1)) = R) (h1 : X.length = n') (h3 : R.length = k') (hz : n' + k' ≤ 200000) :
    Calls Try.prog 16 #[.agg #[.bool false, .slice A n c, .slice B m d, .slice C k e], .string key, .int .i64 kid] w (NodeEnd false n' k' 0 X R [] 0 w) := by
  have := graft_ok A B C n c m d k e xs ks rs key kid w hN hM hH
  rw [hX, hR] at this
  exact this.mono fun x w' h => node_of h h1 h3 rfl (by omega)
theorem cut_any (A B C : Option Addr) (n c m d k e : Nat) (xs : List ByteArray) (ks rs : List Int) (kid : Int) (j : Nat) (w : World) (hN : Nd w A B C n c m d k e xs ks rs) (hM : mayB false xs m k = true) (hm : m ≠ 1) (hj : kid = j) (hk : j < m) :
    Calls Try.prog 17 #[.agg #[.bool false, .slice A n c, .slice B m d, .slice C k e], .int .i64 kid] w (NdEnd false (xs.take (j - 1) ++ ([] ++ xs.drop (j - 1 + 1))) (ks.take j ++ ([] ++ ks.drop (j + 1))) [] 0 w) := by
  rcases Nat.eq_zero_or_pos j with h0 | h0
  · exact cut_first A B C n c m d k e xs ks rs kid j w hN hM hm hj hk h0
  · exact cut_more A B C n c m d k e xs ks rs kid j w hN hM hm hj hk h0
theorem cut_c (kid : Int) (j : Nat) {X : List ByteArray} {R : List Int} {n' k' : Nat} (hN : Nd w A B C n c m d k e xs ks rs) (hM : mayB false xs m k = true) (hm : m ≠ 1) (hj : kid = j) (hk : j < m) (hX : xs.take (j - 1) ++ ([] ++ xs.drop (j - 1 + 1)) = X) (hR : ks.take j ++ ([] ++ ks.drop (j + 1)) = R) (h1 : X.length = n') (h3 : R.length = k') (hz : n' + k' ≤ 200000) :
    Calls Try.prog 17 #[.agg #[.bool false, .slice A n c, .slice B m d, .slice C k e], .int .i64 kid] w (NodeEnd false n' k' 0 X R [] 0 w) := by
  have : Calls Try.prog 17 #[.agg #[.bool false, .slice A n c, .slice B m d, .slice C k e], .int .i64 kid] w (NdEnd false (xs.take (j - 1) ++ ([] ++ xs.drop (j - 1 + 1))) (ks.take j ++ ([] ++ ks.drop (j + 1))) [] 0 w) := by
    rcases Nat.eq_zero_or_pos j with h0 | h0
    · exact cut_first A B C n c m d k e xs ks rs kid j w hN hM hm hj hk h0
    · exact cut_more A B C n c m d k e xs ks rs kid j w hN hM hm hj hk h0
  rw [hX, hR] at this
  exact this.mono fun x w' h => node_of h h1 h3 rfl (by omega)
theorem is_c {A' B' C' : Option Addr} {n' c' m' d' k' e' : Nat} (hN : Nd w A B C n c m d k e xs ks rs) (hM : Nd w A' B' C' n' c' m' d' k' e' xs ks rs) (hl : lf = decide (m' = 0)) :
    Calls Try.prog 32 #[.agg #[.bool lf, .slice A n c, .slice B m d, .slice C k e], .slice A' n' c', .slice B' m' d', .slice C' k' e'] w (BoolEnd true w) := by
  have := is_any lf A B C n c m d k e xs ks rs A' B' C' n' c' m' d' k' e' xs ks rs w hN hM
  have e1 : sameN lf (decide (m' = 0)) xs xs ks ks rs rs = true := decide_eq_true ⟨hl, rfl, rfl, rfl⟩
  rw [e1] at this
  exact this
theorem split_leaf_c (h : Nat) (up : ByteArray) {X1 X2 : List ByteArray} {R1 R2 : List Int} {n1 k1 n2 k2 : Nat} (hN : Nd w A B C n c m d k e xs ks rs) (hM : mayB true xs m k = true) (h3 : 3 ≤ n) (hh : (n + 1) / 2 = h) (hup : xs[h]? = some up) (g1 : xs.take h = X1) (g2 : rs.take h = R1) (g3 : xs.drop h = X2) (g4 : rs.drop h = R2) (e1 : X1.length = n1) (e2 : R1.length = k1) (e3 : X2.length = n2) (e4 : R2.length = k2) (hz : n1 + k1 ≤ 200000) (hy : n2 + k2 ≤ 200000) :
    Calls Try.prog 15 #[.agg #[.bool true, .slice A n c, .slice B m d, .slice C k e]] w (TwoEnd true n1 0 k1 X1 [] R1 n2 0 k2 X2 [] R2 up w) := by
  have := split_leaf A B C n c m d k e xs ks rs h up w hN hM h3 hh hup
  rw [g1, g2, g3, g4] at this
  exact this.mono fun x w' h => two_of h e1 rfl e2 e3 rfl e4 (by omega) (by omega)
theorem split_inner_c (h : Nat) (up : ByteArray) {X1 X2 : List ByteArray} {R1 R2 : List Int} {n1 k1 n2 k2 : Nat} (hN : Nd w A B C n c m d k e xs ks rs) (hM : mayB false xs m k = true) (h3 : 3 ≤ n) (hh : (n + 1) / 2 = h) (hup : xs[h]? = some up) (g1 : xs.take h = X1) (g2 : ks.take (h + 1) = R1) (g3 : xs.drop (h + 1) = X2) (g4 : ks.drop (h + 1) = R2) (e1 : X1.length = n1) (e2 : R1.length = k1) (e3 : X2.length = n2) (e4 : R2.length = k2) (hz : n1 + k1 ≤ 200000) (hy : n2 + k2 ≤ 200000) :
    Calls Try.prog 15 #[.agg #[.bool false, .slice A n c, .slice B m d, .slice C k e]] w (TwoEnd false n1 k1 0 X1 R1 [] n2 k2 0 X2 R2 [] up w) := by
  have := split_inner A B C n c m d k e xs ks rs h up w hN hM h3 hh hup
  rw [g1, g2, g3, g4] at this
  exact this.mono fun x w' h => two_of h e1 e2 rfl e3 e4 rfl (by omega) (by omega)
end
/-- a variable that holds a node -/
def VarAt (W : World) (b : Nat) (lf : Bool) (A B C : Option Addr) (n c m d k e : Nat) (xs : List ByteArray) (ks rs : List Int) : Prop := C4 W b (.bool lf) (.slice A n c) (.slice B m d) (.slice C k e) ∧ Nd W A B C n c m d k e xs ks rs
theorem VarAt.later {W W' : World} {b : Nat} {lf : Bool} {A B C : Option Addr} {n c m d k e : Nat} {xs : List ByteArray} {ks rs : List Int} (h : VarAt W b lf A B C n c m d k e xs ks rs) (hb : Below W.heap.size W W') : VarAt W' b lf A B C n c m d k e xs ks rs := ⟨h.1.later hb, h.2.later hb⟩
theorem VarAt.alloc {W : World} {b : Nat} {lf : Bool} {A B C : Option Addr} {n c m d k e : Nat} {xs : List ByteArray} {ks rs : List Int} (h : VarAt W b lf A B C n c m d k e xs ks rs) (o : Obj) : VarAt (W.alloc o) b lf A B C n c m d k e xs ks rs := h.later ((Below.refl _ _).alloc (Nat.le_refl _) _)
theorem VarAt.new {W : World} {lf : Bool} {A B C : Option Addr} {n c m d k e : Nat} {xs : List ByteArray} {ks rs : List Int} (h : Nd W A B C n c m d k e xs ks rs) : VarAt (W.alloc (.cells #[.bool lf, .slice A n c, .slice B m d, .slice C k e] 28)) W.heap.size lf A B C n c m d k e xs ks rs :=
  ⟨(Blk.new W _ 28).c4, h.later ((Below.refl _ _).alloc (Nat.le_refl _) _)⟩
/-- may this stand in a node's cell? -/
def isNode : Value → Bool
  | .bool _ => true
  | .slice _ _ _ => true
  | _ => false
theorem Rd.set4 {α : Type} {enc : α → Value} {W : World} {A : Option Addr} {n g : Nat} {xs : List α} {a b c d a' b' c' d' : Value} {t : TypeId} (h : Rd enc W.heap.size W A n xs) (he : ∀ x, isNode (enc x) = false) (hB : Blk W g #[a, b, c, d] t) (h0 : isNode a = true) (h1 : isNode b = true) (h2 : isNode c = true) (h3 : isNode d = true) :
    Rd enc ((((W.setCell ⟨g, 0, .none⟩ a').setCell ⟨g, 1, .none⟩ b').setCell ⟨g, 2, .none⟩ c').setCell ⟨g, 3, .none⟩ d').heap.size ((((W.setCell ⟨g, 0, .none⟩ a').setCell ⟨g, 1, .none⟩ b').setCell ⟨g, 2, .none⟩ c').setCell ⟨g, 3, .none⟩ d') A n xs :=
  ⟨h.1, fun hn => by
    obtain ⟨g', off, hA, hg, hc⟩ := h.2 hn
    refine ⟨g', off, hA, by simpa [World.setCell] using hg, fun j x hx => ?_⟩
    have hcell := hc j x hx
    by_cases e : g' = g
    · subst e
      rw [hB.cell] at hcell
      have hx' := he x
      have hlt : off + j < 4 := (Array.getElem?_eq_some_iff.1 hcell).1
      generalize off + j = q at *
      match q, hlt, hcell with
      | 0, _, hcell => cases hcell; rw [hx'] at h0; cases h0
      | 1, _, hcell => cases hcell; rw [hx'] at h1; cases h1
      | 2, _, hcell => cases hcell; rw [hx'] at h2; cases h2
      | 3, _, hcell => cases hcell; rw [hx'] at h3; cases h3
    · rw [cell_set_ne _ e, cell_set_ne _ e, cell_set_ne _ e, cell_set_ne _ e]; exact hcell⟩
theorem Nd.set4 {W : World} {A B C : Option Addr} {n c m d k e : Nat} {xs : List ByteArray} {ks rs : List Int} (h : Nd W A B C n c m d k e xs ks rs) {g : Nat} {v0 v1 v2 v3 : Value} {t : TypeId} (hB : Blk W g #[v0, v1, v2, v3] t) (h0 : isNode v0 = true) (h1 : isNode v1 = true) (h2 : isNode v2 = true) (h3 : isNode v3 = true) (a b p q : Value) :
    Nd ((((W.setCell ⟨g, 0, none⟩ a).setCell ⟨g, 1, none⟩ b).setCell ⟨g, 2, none⟩ p).setCell ⟨g, 3, none⟩ q) A B C n c m d k e xs ks rs :=
  ⟨⟨h.K.rd.set4 (fun _ => rfl) hB h0 h1 h2 h3, h.K.le, h.K.nil⟩, ⟨h.D.rd.set4 (fun _ => rfl) hB h0 h1 h2 h3, h.D.le, h.D.nil⟩, ⟨h.R.rd.set4 (fun _ => rfl) hB h0 h1 h2 h3, h.R.le, h.R.nil⟩, h.sz⟩
theorem VarAt.set4 {W : World} {b' : Nat} {lf : Bool} {A B C : Option Addr} {n c m d k e : Nat} {xs : List ByteArray} {ks rs : List Int} (h : VarAt W b' lf A B C n c m d k e xs ks rs) {g : Nat} {v0 v1 v2 v3 : Value} {t : TypeId} (hB : Blk W g #[v0, v1, v2, v3] t) (h0 : isNode v0 = true) (h1 : isNode v1 = true) (h2 : isNode v2 = true) (h3 : isNode v3 = true) (hne : b' ≠ g) (a b p q : Value) :
    VarAt ((((W.setCell ⟨g, 0, none⟩ a).setCell ⟨g, 1, none⟩ b).setCell ⟨g, 2, none⟩ p).setCell ⟨g, 3, none⟩ q) b' lf A B C n c m d k e xs ks rs := ⟨h.1.set4 hne _ _ _ _, h.2.set4 hB h0 h1 h2 h3 _ _ _ _⟩
theorem nd_lit2 (W : World) (X : List ByteArray) (R : List Int) (hz : X.length + R.length ≤ 200000) : Nd ((W.alloc (.cells (X.map sv).toArray 9)).alloc (.cells (R.map hv).toArray 24)) (some ⟨W.heap.size, 0, none⟩) none (some ⟨W.heap.size + 1, 0, none⟩) X.length X.length 0 0 R.length R.length X [] R :=
  ⟨Blk.sl (enc := sv) ((Blk.new W _ 9).alloc _), Sl.empty _, Blk.sl (enc := hv) (Blk.new2 _ _ 24 (by simp)), by omega⟩
theorem nd_lit3 (W : World) (X : List ByteArray) (K : List Int) (hz : X.length + K.length ≤ 200000) : Nd ((W.alloc (.cells (X.map sv).toArray 9)).alloc (.cells (K.map iv).toArray 3)) (some ⟨W.heap.size, 0, none⟩) (some ⟨W.heap.size + 1, 0, none⟩) none X.length X.length K.length K.length 0 0 X K [] :=
  ⟨Blk.sl (enc := sv) ((Blk.new W _ 9).alloc _), Blk.sl (enc := iv) (Blk.new2 _ _ 3 (by simp)), Sl.empty _, by omega⟩
theorem nd_lit1 (W : World) (K : List Int) (hz : K.length ≤ 200000) : Nd (W.alloc (.cells (K.map iv).toArray 3)) none (some ⟨W.heap.size, 0, none⟩) none 0 0 K.length K.length 0 0 [] K [] :=
  ⟨Sl.empty _, Blk.sl (enc := iv) (Blk.new W _ 3), Sl.empty _, by simp; omega⟩
abbrev t (n : UInt8) : ByteArray := ⟨#[n]⟩
example : lowN [⟨#[98]⟩, ⟨#[100]⟩, ⟨#[102]⟩] ⟨#[99]⟩ = 1 := by decide +kernel
example : mayB true [⟨#[98]⟩, ⟨#[100]⟩, ⟨#[102]⟩] 0 3 = true := by decide +kernel
example : hasB [⟨#[98]⟩, ⟨#[100]⟩, ⟨#[102]⟩] ⟨#[99]⟩ = false := by decide +kernel
end Go.Proofs.Ytiojjpmkiljngaa
