/- The laid tables, out of a row's condition. -/
import Derived.Test.YtkgdmdcnhbaidaaDoorB
import Derived.Test.YtkgdmdcnhbaidaaDoorRows
import Derived.LaidSub
import Derived.LaidHandle
import Derived.SevenTiedAt
import Derived.OpenShut
import Derived.ChangeArms
import Derived.Lib.LaidTab
namespace Go.Proofs.YtkgdmdcnhbaidaaDoor
open Go.ChangeShapes Go.WideShapes Go.ChangeAt Go.RowKit
set_option linter.unusedVariables false
set_option linter.unusedSimpArgs false

theorem words_of {W : World} (h : laidMet Tryd.prog [("ferryman/call.words", Rows.laid_ferryman_call_words)] W) (j : Nat) (w : ByteArray) (hw : wdL[j]? = some w) : W.cell? ⟨0, j, none⟩ = some (.string w) := by
  obtain ⟨ps, ⟨g, t, cs, fuel, p, q, hg, ht, hv, hd, _, _⟩, _, _⟩ := h
  obtain rfl := Option.some.inj ((show Tryd.prog.globalNamed "ferryman/call.words" = some 0 by kernel_rfl).symm.trans hg)
  obtain rfl := Option.some.inj ((show (Tryd.prog.globals[0]?).map (·.type) = some 76 by kernel_rfl).symm.trans ht)
  have c9 : Tryd.prog.cellsOf 9 = 1 := by kernel_rfl
  obtain ⟨xs, m, _, ex, hlen, hl, hel⟩ := DataW.trod_array Tryd.underlying76 hd
  have hj : j < 10 := (List.getElem?_eq_some_iff.1 hw).1
  have e3 := (DataW.agg.inj (Prod.mk.inj ex).1)
  have hk := hel j hj
  rw [c9, List.getElem?_eq_getElem (by omega)] at hk
  obtain ⟨s, a, b, _⟩ := DataW.trod_string Tryd.underlying9 hk
  have h1 : (xs.map (·.1))[j]? = some (.lit (.string s.data.toList)) := by rw [List.getElem?_map, List.getElem?_eq_getElem (by omega), b]; rfl
  rw [← e3] at h1
  have h2 : (wdL.map (fun w => (DataW.lit (.string w.data.toList) : DataW Unit)))[j]? = some (.lit (.string s.data.toList)) := h1
  rw [List.getElem?_map, hw] at h2
  have h3 : w.data.toList = s.data.toList := Lit.string.inj (DataW.lit.inj (Option.some.inj h2))
  have h4 : s = w := ByteArray.ext (Array.toList_inj.1 h3.symm)
  have h5 : cs[j]? = some (.string s) := by
    have := congrArg (·[0]?) a
    simpa [List.getElem?_take, List.getElem?_drop] using this
  rw [World.var?_cell (by kernel_rfl) hv j, ← h4]
  simpa using h5
theorem named_of {W : World} (h : laidMet Tryd.prog [("ferryman/call.named", Rows.laid_ferryman_call_named)] W) (k : Nat) (hk : k < 10) : W.cell? ⟨1, k * 6, none⟩ = some (.bool (nmK k).1) ∧ W.cell? ⟨1, k * 6 + 1, none⟩ = some (.bool (nmK k).2.1) ∧ W.cell? ⟨1, k * 6 + 2, none⟩ = some (.bool (nmK k).2.2.1) ∧ W.cell? ⟨1, k * 6 + 3, none⟩ = some (.bool (nmK k).2.2.2.1) ∧ W.cell? ⟨1, k * 6 + 4, none⟩ = some (.bool (nmK k).2.2.2.2.1) ∧ W.cell? ⟨1, k * 6 + 5, none⟩ = some (.bool (nmK k).2.2.2.2.2) := by
  obtain ⟨ps, ⟨g, t, cs, fuel, p, q, hg, ht, hv, hd, _, _⟩, _, _⟩ := h
  obtain rfl := Option.some.inj ((show Tryd.prog.globalNamed "ferryman/call.named" = some 1 by kernel_rfl).symm.trans hg)
  obtain rfl := Option.some.inj ((show (Tryd.prog.globals[1]?).map (·.type) = some 91 by kernel_rfl).symm.trans ht)
  have c72 : Tryd.prog.cellsOf 72 = 6 := by kernel_rfl
  have c4 : Tryd.prog.cellsOf 4 = 1 := by kernel_rfl
  obtain ⟨xs, m, _, ex, hlen, hl, hel⟩ := DataW.trod_array Tryd.underlying91 hd
  have e3 := (DataW.agg.inj (Prod.mk.inj ex).1)
  have hx := hel k hk
  rw [c72, List.getElem?_eq_getElem (by omega)] at hx
  obtain ⟨ys, m2, _, ey, hl2, hy, hel2⟩ := DataW.trod_struct Tryd.underlying72 hx
  have hy6 : ys.length = 6 := hy
  have h1 : (xs.map (·.1))[k]? = some (.agg (ys.map (·.1))) := by rw [List.getElem?_map, List.getElem?_eq_getElem (by omega), ey]; rfl
  rw [← e3] at h1
  have h2 : ((List.range 10).map (fun k => (DataW.agg [.lit (.bool (nmK k).1), .lit (.bool (nmK k).2.1), .lit (.bool (nmK k).2.2.1), .lit (.bool (nmK k).2.2.2.1), .lit (.bool (nmK k).2.2.2.2.1), .lit (.bool (nmK k).2.2.2.2.2)] : DataW Unit)))[k]? = some (.agg (ys.map (·.1))) := h1
  rw [List.getElem?_map, List.getElem?_range hk] at h2
  have h3 := DataW.agg.inj (Option.some.inj h2)
  have hc : ∀ (i : Nat) (b : Bool), i < 6 → List.take 1 (List.drop i (List.take 6 (List.drop (k * 6) cs.toList))) = [Value.bool b] → W.cell? ⟨1, k * 6 + i, none⟩ = some (.bool b) := fun i b hi e => by
    rw [World.var?_cell (by kernel_rfl) hv (k * 6 + i)]
    have := congrArg (·[0]?) e
    simp only [List.getElem?_take, List.getElem?_drop] at this
    simpa [hi] using this
  have f0 := hel2 0 { name := "tx", type := 4, offset := 0, embedded := false, tag := "", pkgPath := "ferryman/call", byteOffset := 0 } rfl
  rw [List.getElem?_eq_getElem (by omega)] at f0
  simp only [c4] at f0
  obtain ⟨b0, a0, x0⟩ := DataW.trod_bool Tryd.underlying4 f0
  have g0 : (nmK k).1 = b0 := by
    have := congrArg (·[0]?) h3
    simp only [List.getElem?_map, List.getElem?_eq_getElem (show 0 < ys.length by omega), x0] at this
    exact Lit.bool.inj (DataW.lit.inj (Option.some.inj this))
  have f1 := hel2 1 { name := "key", type := 4, offset := 1, embedded := false, tag := "", pkgPath := "ferryman/call", byteOffset := 1 } rfl
  rw [List.getElem?_eq_getElem (by omega)] at f1
  simp only [c4] at f1
  obtain ⟨b1, a1, x1⟩ := DataW.trod_bool Tryd.underlying4 f1
  have g1 : (nmK k).2.1 = b1 := by
    have := congrArg (·[1]?) h3
    simp only [List.getElem?_map, List.getElem?_eq_getElem (show 1 < ys.length by omega), x1] at this
    exact Lit.bool.inj (DataW.lit.inj (Option.some.inj this))
  have f2 := hel2 2 { name := "end", type := 4, offset := 2, embedded := false, tag := "", pkgPath := "ferryman/call", byteOffset := 2 } rfl
  rw [List.getElem?_eq_getElem (by omega)] at f2
  simp only [c4] at f2
  obtain ⟨b2, a2, x2⟩ := DataW.trod_bool Tryd.underlying4 f2
  have g2 : (nmK k).2.2.1 = b2 := by
    have := congrArg (·[2]?) h3
    simp only [List.getElem?_map, List.getElem?_eq_getElem (show 2 < ys.length by omega), x2] at this
    exact Lit.bool.inj (DataW.lit.inj (Option.some.inj this))
  have f3 := hel2 3 { name := "value", type := 4, offset := 3, embedded := false, tag := "", pkgPath := "ferryman/call", byteOffset := 3 } rfl
  rw [List.getElem?_eq_getElem (by omega)] at f3
  simp only [c4] at f3
  obtain ⟨b3, a3, x3⟩ := DataW.trod_bool Tryd.underlying4 f3
  have g3 : (nmK k).2.2.2.1 = b3 := by
    have := congrArg (·[3]?) h3
    simp only [List.getElem?_map, List.getElem?_eq_getElem (show 3 < ys.length by omega), x3] at this
    exact Lit.bool.inj (DataW.lit.inj (Option.some.inj this))
  have f4 := hel2 4 { name := "limit", type := 4, offset := 4, embedded := false, tag := "", pkgPath := "ferryman/call", byteOffset := 4 } rfl
  rw [List.getElem?_eq_getElem (by omega)] at f4
  simp only [c4] at f4
  obtain ⟨b4, a4, x4⟩ := DataW.trod_bool Tryd.underlying4 f4
  have g4 : (nmK k).2.2.2.2.1 = b4 := by
    have := congrArg (·[4]?) h3
    simp only [List.getElem?_map, List.getElem?_eq_getElem (show 4 < ys.length by omega), x4] at this
    exact Lit.bool.inj (DataW.lit.inj (Option.some.inj this))
  have f5 := hel2 5 { name := "engine", type := 4, offset := 5, embedded := false, tag := "", pkgPath := "ferryman/call", byteOffset := 5 } rfl
  rw [List.getElem?_eq_getElem (by omega)] at f5
  simp only [c4] at f5
  obtain ⟨b5, a5, x5⟩ := DataW.trod_bool Tryd.underlying4 f5
  have g5 : (nmK k).2.2.2.2.2 = b5 := by
    have := congrArg (·[5]?) h3
    simp only [List.getElem?_map, List.getElem?_eq_getElem (show 5 < ys.length by omega), x5] at this
    exact Lit.bool.inj (DataW.lit.inj (Option.some.inj this))
  rw [g0, g1, g2, g3, g4, g5]
  exact ⟨hc 0 b0 (by decide) a0, hc 1 b1 (by decide) a1, hc 2 b2 (by decide) a2, hc 3 b3 (by decide) a3, hc 4 b4 (by decide) a4, hc 5 b5 (by decide) a5⟩
theorem pow_of {W : World} (h : laidMet Tryd.prog [("internal/strconv.uint64pow10", Rows.laid_internal_strconv_uint64pow10)] W) : Lib.TabIs Tryd.prog W "internal/strconv.uint64pow10" .u64 Lib.pow10Tab := by
  have h' : laidMet Tryd.prog [("internal/strconv.uint64pow10", Lib.tabData .u64 Lib.pow10Tab)] W := h
  exact Lib.tabIs_of_head (k := .u64) (g := 3) (t := 131) (e := 96) (n := 20) (by kernel_rfl) (by kernel_rfl) Tryd.underlying131 Tryd.underlying96 (by kernel_rfl) (by kernel_rfl) h'
set_option maxRecDepth 100000 in
theorem iface_of {W : World} {n : String} {g : Nat} {ms : Array (String × TypeId)} {t0 : TypeId} {tn : String} {d : DataW Unit} (hg0 : Tryd.prog.globalNamed n = some g) (hty : (Tryd.prog.globals[g]?).map (·.type) = some t0) (hu : Tryd.prog.underlying t0 = some (.interface ms)) (h : laidMet Tryd.prog [(n, .iface tn d)] W) : ∃ u v, W.var? Tryd.prog n = some #[.iface u v] := by
  obtain ⟨ps, ⟨g', t', cs, fuel, p, q, hg, ht, hv, hd, _, _⟩, _, _⟩ := h
  obtain rfl := Option.some.inj (hg0.symm.trans hg)
  obtain rfl := Option.some.inj (hty.symm.trans ht)
  cases fuel with
  | zero => simp [DataW.trod] at hd
  | succ fuel =>
    obtain ⟨l⟩ := cs
    cases l with
    | nil => exfalso; unfold DataW.trod at hd; rw [hu] at hd; cases hd
    | cons a r =>
      cases r with
      | cons b r => exfalso; unfold DataW.trod at hd; rw [hu] at hd; cases a <;> cases hd
      | nil =>
        cases a with
        | iface u v => exact ⟨u, v, hv⟩
        | nilIface => exfalso; unfold DataW.trod at hd; rw [hu] at hd; cases hd
        | _ => exfalso; unfold DataW.trod at hd; rw [hu] at hd; cases hd
theorem gl_parts {W : World} (h : laidMetH Tryd.prog Rows.callLargerRow.laid W) (n : String) (d : DataW Unit) (hf : Rows.callLargerRow.laid.filter (fun x => x.1 == n) = [(n, d)]) (hh : d.handleName?.isNone = true) : laidMet Tryd.prog [(n, d)] W := by
  have h2 := laidMetH.filter (fun x => x.1 == n) h
  rw [hf] at h2
  rw [MakeChecks.laidMetH_plain _ _ _ (by simp [hh])] at h2
  exact h2
theorem gl_of_laid {W : World} (h : laidMetH Tryd.prog Rows.callLargerRow.laid W) (hlo : 8 ≤ W.heap.size) (hmx : ∃ m, W.cell? ⟨2, 0, none⟩ = some (.int .i64 m)) : Gl W where
  lo := hlo
  words := words_of (gl_parts h _ _ (by kernel_rfl) (by kernel_rfl))
  named := named_of (gl_parts h _ _ (by kernel_rfl) (by kernel_rfl))
  max := hmx
  pow := pow_of (gl_parts h _ _ (by kernel_rfl) (by kernel_rfl))
  syn := iface_of (g := 6) (by kernel_rfl) (by kernel_rfl) Tryd.underlying103 (gl_parts h "strconv.ErrSyntax" Rows.laid_strconv_ErrSyntax (by kernel_rfl) (by kernel_rfl))
  rng := iface_of (g := 7) (by kernel_rfl) (by kernel_rfl) Tryd.underlying103 (gl_parts h "strconv.ErrRange" Rows.laid_strconv_ErrRange (by kernel_rfl) (by kernel_rfl))
end Go.Proofs.YtkgdmdcnhbaidaaDoor
