/- New, Clone, Copy, Ints, is. -/
import Derived.Test.YtmkgipbepipjkaaDoorF
import Derived.Laws.AppendOwn
import Derived.Lib.AppendZerosOnto
namespace Go.Proofs.YtmkgipbepipjkaaDoor
open Go.ChangeShapes Go.WideShapes Go.ChangeAt Go.RowKit
set_option linter.unusedVariables false
set_option linter.unusedSimpArgs false

set_option maxRecDepth 100000 in
set_option maxHeartbeats 4000000 in
theorem new_any (w : World) : Calls Tryd.prog 19 #[] w fun x w' => x = .returned (.pointer (some ⟨w.heap.size, 0, none⟩)) ∧ WrAt w' w.heap.size w.heap.size (.slice none 0 0) [] 0 0 ∧ Below w.heap.size w w' := by
  have hb0 : Below w.heap.size w (w.alloc (.cells #[.slice none 0 0, .int .i64 0, .int .i64 0] 47)) := (Below.refl _ _).alloc (Nat.le_refl _) _
  have HB := Lib.hid hb0
  have HO : Hid (WrAt (w.alloc (.cells #[.slice none 0 0, .int .i64 0, .int .i64 0] 47)) w.heap.size w.heap.size (.slice none 0 0) [] 0 0) := ⟨Nat.le_refl _, Blk.new _ _ _, WOwn.nil _ _, Nat.le_refl _, fun j hj => absurd hj (by omega), by decide, by decide, fun x hx => by cases hx⟩
  clear hb0
  go_enter Tryd.func19, Tryd.ntmps19
  go_wp2
  go_ret
  exact ⟨rfl, HO.out, HB.out⟩
def CloneEnd (L : List Wr) (w : World) (e : Ending) (w' : World) : Prop := ∃ v', e = .returned v' ∧ WOwn w' w.heap.size v' L ∧ Below w.heap.size w w'
set_option maxRecDepth 100000 in
set_option maxHeartbeats 4000000 in
theorem clone_any (B : Nat) (v : Value) (L : List Wr) (w : World) (hn : L.length ≤ 1000000) (h : WOwn w B v L) : Calls Tryd.prog 34 #[v] w (CloneEnd L w) := by
  have HO := Lib.hid h
  obtain ⟨A, c, rfl, hc, hat⟩ := h.sl
  cases A with
  | none =>
    have hv : Hid (L = []) := by
      rcases Nat.eq_zero_or_pos L.length with h0 | h0
      · exact List.eq_nil_of_length_eq_zero h0
      · obtain ⟨g, e, _⟩ := hat 0 h0; cases e
    have hq := fun W => Lib.run_eql_slice_nil (P := Tryd.prog) W 45 49 none L.length c 0 0 Tryd.underlying45
    clear h hat
    go_enter Tryd.func34, Tryd.ntmps34
    go_wp2
    go_ret
    exact ⟨_, rfl, by rw [hv.out]; exact WOwn.nil _ _, Below.refl _ _⟩
  | some a =>
    obtain ⟨i0, hi, hz0, hz1, hz2⟩ := info_parts w49info
    have hown0 := World.ownsRow_lit (base := w.heap.size) (size := 2) (e := 49) w #[] 0 (Nat.le_refl _) (by unfold maxLen; omega) (by simp)
    have Hl : Hid ((wrv L).length = L.length * 2) := wrv_len L
    have Hc : Hid (∀ i u, (wrv L)[i]? = some u → (w.alloc (.cells #[] 49)).cell? (a.add i) = some u) := by
      rcases h.2 with ⟨e, _⟩ | ⟨g, cap, cur, e, hB, hg, _⟩
      · cases e
      · cases e
        have hO := h
        unfold WOwn at hO
        intro i u hu
        have := hO.cells (g := g) rfl i u hu
        exact (((Below.refl w.heap.size w).alloc (Nat.le_refl _) (.cells #[] 49)).cell (p := (⟨g, 0, none⟩ : Addr).add i) (by rw [add_plain]; exact (Array.getElem?_eq_some_iff.1 hg).1)).trans this
    have hq := fun W => Lib.run_eql_slice_nil (P := Tryd.prog) W 45 49 (some a) L.length c 0 0 Tryd.underlying45
    clear h hat
    go_enter Tryd.func34, Tryd.ntmps34
    go_wp2_with (at_builtin; refine wpList_append_own _ rfl (.tmp 5) (.tmp 6) 45 rfl w.heap.size 49 i0 _ 2 16 Tryd.underlying45 hi hz0 hz1 hz2 rfl (by decide) _ 0 [] rfl hown0 a L.length c (wrv L) rfl Hl.out Hc.out (wrv_one L) (by unfold maxLen; omega) (by omega) (by simp) ?_; intro v' w3 hown' hgrow3)
    intro hnil3
    simp only [Nat.zero_add, List.nil_append] at hown'
    have hrow : WOwn w3 w.heap.size v' L := hown'
    have hb : Below w.heap.size w w3 := ((Below.refl _ _).alloc (Nat.le_refl _) _).grown hgrow3 (by simp) (fun j e => by cases e; exact Nat.le_refl _)
    obtain ⟨A', c', rfl, _⟩ := hrow.sl
    have HR := Lib.hid hrow
    have HB := Lib.hid hb
    clear hown' hgrow3 hnil3 hrow hb
    go_wp2
    go_ret
    exact ⟨_, rfl, HR.out, HB.out⟩
def CopyEnd (L : List Wr) (la : Int) (en : Nat) (w : World) (e : Ending) (w' : World) : Prop := ∃ v', e = .returned (.pointer (some ⟨w.heap.size, 0, none⟩)) ∧ WrAt w' w.heap.size w.heap.size v' L la en ∧ Below w.heap.size w w'
set_option maxRecDepth 100000 in
set_option maxHeartbeats 4000000 in
theorem copy_any (B p : Nat) (v : Value) (L : List Wr) (la : Int) (en : Nat) (w : World) (h : WrAt w B p v L la en) (hn : L.length ≤ 1000000) : Calls Tryd.prog 18 #[.pointer (some ⟨p, 0, none⟩)] w (CopyEnd L la en w) := by
  have H := Lib.hid h
  have hb0 : Below w.heap.size w (w.alloc (.cells #[v, .int .i64 en, .int .i64 la] 47)) := (Below.refl _ _).alloc (Nat.le_refl _) _
  have HB0 := Lib.hid hb0
  have H1 := Lib.hid (h.later hb0)
  have HN := Lib.hid (Blk.new w #[v, .int .i64 en, .int .i64 la] 47)
  obtain ⟨A, c, rfl, hc, k0, k1, k2, _⟩ := h.cells
  clear h hb0
  go_enter Tryd.func18, Tryd.ntmps18
  go_upto_region 4 with (fail)
  generalize w.alloc (.cells #[.slice A L.length c, .int .i64 en, .int .i64 la] 47) = w1 at *
  have q0 := H1.out.blk.cell 0
  have q1 := HN.out.cell 0
  simp only [List.getElem?_toArray, List.getElem?_cons_zero] at q0 q1
  clear k0 k1 k2
  go_wp2_with fail
  refine (clone_any B _ L w1 hn H1.out.own).mono ?_
  rintro x w2 ⟨v', rfl, ho, hb⟩
  have HB2 := Lib.hid (stepB HB0.out hb)
  have HN2 := Lib.hid (HN.out.later hb)
  have hlt : w.heap.size < w1.heap.size := HN.out.lt
  have HO2 : Hid (WOwn w2 w.heap.size v' L) := ho.base (by omega)
  obtain ⟨A', c', rfl, _⟩ := ho.sl
  have y0 := HN2.out.cell 0
  have y1 := HN2.out.frozen 0
  simp only [List.getElem?_toArray, List.getElem?_cons_zero] at y0
  have HF : Hid (WrAt (w2.setCell ⟨w.heap.size, 0, none⟩ (.slice A' L.length c')) w.heap.size w.heap.size (.slice A' L.length c') L la en) :=
    ⟨Nat.le_refl _, HN2.out.set _, HO2.out.fr (Fr.setp w2 w.heap.size 0 _ (.slice none 0 0)) (HO2.out.ne HN2.out (by decide)) (fun k hk e => by cases e), H.out.le, H.out.nb, H.out.la0, H.out.la1, H.out.st⟩
  have HB3 : Hid (Below w.heap.size w (w2.setCell ⟨w.heap.size, 0, none⟩ (.slice A' L.length c'))) := HB2.out.setCell (Nat.le_refl _) _
  clear q0 q1 ho hb HN H1 HB0
  go_wp2
  go_ret
  exact ⟨_, rfl, HF.out, HB3.out⟩
/-- a slice of numbers that reads -/
def iv (x : Int) : Value := .int .i64 x
theorem iindex (g off m c k : Nat) (i : Int) (hi : i = (k : Int)) (h : k < m) (W : World) : (Instr.indexAt 29 (.slice (some ⟨g, off, none⟩) m c) (.int .i64 i)).run Tryd.prog W = .ok (.pointer (some ⟨g, off + k, none⟩)) W := by
  subst hi
  have h1 : (0 : Int) ≤ (k : Int) ∧ (k : Int) < (m : Int) := by omega
  go_simp
def EqEnd (b : Bool) (w : World) (x : Ending) (w' : World) : Prop := x = .returned (.bool b) ∧ ∃ k, w' = w.drewN k
theorem eqEnd_of {b b' : Bool} {w w' : World} {k : Nat} (h : b = b') (hw : w' = w.drewN k) : EqEnd b w (.returned (.bool b')) w' := ⟨ret_bool h.symm, k, hw⟩
theorem ine_no {x y : Int} (h : x = y) : (x != y) = false := by rw [h]; simp
theorem ine_yes {x y : Int} (h : ¬ x = y) : (x != y) = true := by rw [bne_iff_ne]; exact h
theorem ieq_no {x y : Int} (h : ¬ x = y) : (x == y) = false := by rw [beq_eq_false_iff_ne]; exact h
theorem ieq_yes {x y : Int} (h : x = y) : (x == y) = true := by rw [h]; simp
set_option maxRecDepth 100000 in
set_option maxHeartbeats 4000000 in
theorem ints_any (A B : Option Addr) (n m c c' : Nat) (xs ys : List Int) (w : World) (hs : Rd iv w.heap.size w A n xs) (hu : Rd iv w.heap.size w B m ys) (hn : n ≤ 1000000) (hm : m ≤ 1000000) : Calls Tryd.prog 30 #[.slice A n c, .slice B m c'] w (EqEnd (decide (xs = ys)) w) := by
  have Hs := Lib.hid hs
  have Hu := Lib.hid hu
  clear hs hu
  by_cases hnm : n = m
  · subst hnm
    go_enter Tryd.func30, Tryd.ntmps30
    go_wp2
    go_loopw [5] (fun i wr => ∃ k : Nat, k ≤ n ∧ i = .int .i64 k ∧ (∀ j, j < k → xs[j]? = ys[j]?) ∧ ∃ d, wr = w.drewN d) (fun i _ => n - (intOf i).toNat)
    case atStart => exact ⟨0, by omega, rfl, fun j hj => by omega, 0, rfl⟩
    case round =>
      obtain ⟨k, hk, rfl, hall, d, rfl⟩ := hrel
      have Hall := Lib.hid hall
      clear hall
      by_cases hlt : k < n
      · obtain ⟨g, off, x, rfl, hxk, hck⟩ := Hs.out.at hlt
        obtain ⟨g', off', y, rfl, hyk, hck'⟩ := Hu.out.at hlt
        have Hv := Lib.hid hxk
        have Hu2 := Lib.hid hyk
        have hx1 := iindex g off n c k (k : Int) rfl hlt
        have hx2 := iindex g' off' n c' k (k : Int) rfl hlt
        simp only [iv] at hck hck'
        clear hxk hyk
        by_cases he : x = y
        · have Hall2 : Hid (∀ j, j < k + 1 → xs[j]? = ys[j]?) := fun j hj => by
            by_cases e : j = k
            · subst e; rw [Hv.out, Hu2.out, he]
            · exact Hall.out j (by omega)
          have d1 := ieq_yes he
          have d2 := ine_no he
          clear he
          go_wp2
          go_quiet (fail)
          clear hck hck' hx1 hx2
          go_wp2
          go_roundw
          case rel => exact ⟨k + 1, by omega, by go_num, Hall2.out, d + nq, by first | rfl | simp⟩
          case measure => simp [intOf]; omega
        · have HR : Hid (decide (xs = ys) = false) := decide_eq_false (fun e => he (Option.some.inj (by rw [← Hv.out, ← Hu2.out, e])))
          have d1 := ieq_no he
          have d2 := ine_yes he
          clear he
          go_wp2
          go_quiet (fail)
          clear hck hck' hx1 hx2
          go_wp2
          go_ret
          exact eqEnd_of (k := d + nq) HR.out (by first | rfl | simp)
      · obtain rfl : k = n := by omega
        have HR : Hid (decide (xs = ys) = true) := decide_eq_true (by
          apply List.ext_getElem?
          intro i
          by_cases hi : i < k
          · exact Hall.out i hi
          · rw [List.getElem?_eq_none (by have := Hs.out.1; omega), List.getElem?_eq_none (by have := Hu.out.1; omega)])
        go_wp2
        go_ret
        exact eqEnd_of (k := d) HR.out rfl
  · have HR : Hid (decide (xs = ys) = false) := decide_eq_false (fun e => hnm (by rw [← Hs.out.1, ← Hu.out.1, e]))
    have h1 : ((n : Int) != (m : Int)) = true := by rw [bne_iff_ne]; omega
    go_enter Tryd.func30, Tryd.ntmps30
    go_wp2
    go_ret
    exact eqEnd_of (k := 0) HR.out rfl
def isB (x : Wr) (s t : Int) : Bool := decide (x.1 = s) && decide (x.2 = t)
set_option maxRecDepth 100000 in
set_option maxHeartbeats 4000000 in
theorem is_any (B p : Nat) (v : Value) (L : List Wr) (la : Int) (en : Nat) (i s t : Int) (w : World) (h : WrAt w B p v L la en) (hn : L.length ≤ 1000000) : Calls Tryd.prog 13 #[.pointer (some ⟨p, 0, none⟩), .int .i64 i, .int .i64 s, .int .i64 t] w fun x w' => x = .returned (.bool (isB (ofL L i) s t)) ∧ Below w.heap.size w w' := by
  have C := Lib.hid (of_any B p v L la en i w h hn)
  have hr : 0 ≤ (ofL L i).1 ∧ (ofL L i).1 ≤ 4 := by
    unfold ofL
    split
    · rename_i hi
      have hk : (i - 1).toNat < L.length := by omega
      obtain ⟨s, t, hx, hs⟩ := h.at hk
      rw [hx]; exact hs
    · exact ⟨by decide, by decide⟩
  generalize ofL L i = x at *
  obtain ⟨xs, xt⟩ := x
  simp only at hr
  have w1 : IntKind.i64.wrap xs = xs := IntWalk.i64_in _ (by omega)
  have HE : Hid (isB (xs, xt) s t = ((xs == s) && (xt == t))) := by show _ = _; unfold isB; rw [Bool.eq_iff_iff]; simp
  clear h hr
  go_enter Tryd.func13, Tryd.ntmps13
  go_wp2_with fail
  refine (C.out).mono ?_
  rintro e w' ⟨rfl, hb⟩
  have HB := Lib.hid hb
  clear hb C
  cases e1 : (xs == s)
  · rw [e1] at HE
    go_wp2
    go_ret
    exact ⟨ret_bool (HE.out.symm ▸ rfl), HB.out⟩
  · rw [e1] at HE
    go_wp2
    go_ret
    exact ⟨ret_bool (HE.out.symm ▸ rfl), HB.out⟩
end Go.Proofs.YtmkgipbepipjkaaDoor
