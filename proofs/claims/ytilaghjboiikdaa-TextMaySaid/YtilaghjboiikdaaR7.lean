/-
Whether any config may be, and any text is a key, a bound, a value of it, is the document s; no condition.
-/
import Derived.Test.YtilaghjboiikdaaLF
import Derived.Test.YtilaghjboiikdaaC
import Derived.ChangeMaps5
import Derived.Test.YtilaghjboiikdaaE
import Derived.Deep.RegionHeld3
import Derived.Deep.Fields
import Derived.ChangeSame
namespace Go.Proofs.Ytilaghjboiikdaa.textMay
open Go.ChangeShapes Go.WideShapes Go.ChangeAt Go.RowKit Go.ChangeMaps
set_option linter.unusedVariables false

theorem own : ownKnob Try.prog.godebug = none := by kernel_rfl
theorem laidOut : laidOutB Try.prog = true := by kernel_rfl

theorem stepB {w0 a b : World} (h : Below w0.heap.size w0 a) (k : Below a.heap.size a b) : Below w0.heap.size w0 b := h.trans (k.mono h.size)
theorem keepc {w w1 : World} {p : Addr} {v : Value} (hb : Below w.heap.size w w1) (h : w.cell? p = some v) : w1.cell? p = some v := (hb.cell (block_lt_of_cell h)).trans h
theorem cells3 : Try.prog.cellsOf 3 = 1 := by kernel_rfl
theorem cells28 : Try.prog.cellsOf 28 = 8 := by kernel_rfl
theorem open_conf {H : Type} {enc : TypeId × Value → H} {W : World} {base : Nat} {sp : Nat → Bool} {held : Bool} {r : Reach} {b0 : Nat} {v : Value} {d : DataW H} {p : List MemPlace}
    (hv : Value.okWide Try.prog W r b0 28 v) (h : DataW.Trod enc Try.prog W base sp held 28 v d p) : ∃ c : Conf, v = c.val := by
  obtain ⟨cs, rfl, hsz⟩ := okWide_struct Try.underlying28 hv
  obtain ⟨l⟩ := cs
  match l, hsz.trans cells28 with
  | [c0, c1, c2, c3, c4, c5, c6, c7], _ =>
    obtain ⟨fuel, hf⟩ := h
    obtain ⟨xs, n, _, hx, _, hlen, hg⟩ := DataW.trod_struct Try.underlying28 hf
    match xs, hlen with
    | [y0, y1, y2, y3, y4, y5, y6, y7], _ =>
      obtain ⟨m0, e0, _, _⟩ := DataW.trod_int Try.underlying3 (show DataW.trod enc Try.prog W base sp held n 3 [c0] = some y0 from by simpa [Value.cells, cells3] using hg 0 _ rfl)
      obtain ⟨m1, e1, _, _⟩ := DataW.trod_int Try.underlying3 (show DataW.trod enc Try.prog W base sp held n 3 [c1] = some y1 from by simpa [Value.cells, cells3] using hg 1 _ rfl)
      obtain ⟨m2, e2, _, _⟩ := DataW.trod_int Try.underlying3 (show DataW.trod enc Try.prog W base sp held n 3 [c2] = some y2 from by simpa [Value.cells, cells3] using hg 2 _ rfl)
      obtain ⟨m3, e3, _, _⟩ := DataW.trod_int Try.underlying3 (show DataW.trod enc Try.prog W base sp held n 3 [c3] = some y3 from by simpa [Value.cells, cells3] using hg 3 _ rfl)
      obtain ⟨m4, e4, _, _⟩ := DataW.trod_int Try.underlying3 (show DataW.trod enc Try.prog W base sp held n 3 [c4] = some y4 from by simpa [Value.cells, cells3] using hg 4 _ rfl)
      obtain ⟨m5, e5, _, _⟩ := DataW.trod_int Try.underlying3 (show DataW.trod enc Try.prog W base sp held n 3 [c5] = some y5 from by simpa [Value.cells, cells3] using hg 5 _ rfl)
      obtain ⟨m6, e6, _, _⟩ := DataW.trod_int Try.underlying3 (show DataW.trod enc Try.prog W base sp held n 3 [c6] = some y6 from by simpa [Value.cells, cells3] using hg 6 _ rfl)
      obtain ⟨m7, e7, _, _⟩ := DataW.trod_int Try.underlying3 (show DataW.trod enc Try.prog W base sp held n 3 [c7] = some y7 from by simpa [Value.cells, cells3] using hg 7 _ rfl)
      exact ⟨⟨m0, m1, m2, m3, m4, m5, m6, m7⟩, by simp_all [Conf.val]⟩
set_option maxRecDepth 100000 in
set_option maxHeartbeats 4000000 in
theorem walk_in (c : Conf) (s : ByteArray) (w : World) (zs : s.size ≤ maxLen) :
    Calls Try.prog 5 #[.agg #[.int .i64 c.ta, .int .i64 c.ac, .int .i64 c.ke, .int .i64 c.de, .int .i64 c.ts, .int .i64 c.kl, .int .i64 c.vl, .int .i64 c.fa], .string s] w fun e w' => e = .returned (.bool true) ∧ Below w.heap.size w w' := by
  have Hs1 : Hid (∀ x ∈ [s], x.size ≤ maxLen) := by intro x hx; simp at hx; subst hx; exact zs
  have hval : Hid (c.val = .agg #[.int .i64 c.ta, .int .i64 c.ac, .int .i64 c.ke, .int .i64 c.de, .int .i64 c.ts, .int .i64 c.kl, .int .i64 c.vl, .int .i64 c.fa]) := rfl
  have K1 := Lib.hid (fun w => may_any c w)
  have K2 := Lib.hid (fun w => rmay_any c w)
  have K3 := Lib.hid (fun w => key_any c s w zs)
  have K4 := Lib.hid (fun w => rkey_any c s w zs)
  have K5 := Lib.hid (fun w => bound_any c s w zs)
  have K6 := Lib.hid (fun w => rbound_any c s w zs)
  have K7 := Lib.hid (fun w => value_any c s w zs)
  have K8 := Lib.hid (fun w => rvalue_any c s w zs)
  rw [hval.out] at K1 K3 K5 K7
  by_cases hl : longB [s] = true
  · have Hl := Lib.hid hl
    clear hl
    go_enter Try.func5, Try.ntmps5
    go_wp2_with fail
    refine (long_any [s] _ 1 _ rfl (by omega) (heap_alloc2_new _ _ _) Hs1.out).mono ?_
    rintro x _ ⟨rfl, rfl⟩
    rw [Hl.out]
    go_wp2_with fail
    refine (works_any _).mono ?_
    rintro x w9 ⟨rfl, hb2⟩
    go_wp2_with fail
    go_ret
    exact ⟨rfl, (((Below.refl w.heap.size w).alloc (Nat.le_refl _) _).alloc (by simp) _).trans (hb2.mono (by simp; omega))⟩
  · have Hl : Hid (longB [s] = false) := Bool.eq_false_iff.2 hl
    clear hl
    have Hc : Hid (((w.alloc (.cells #[.int .i64 c.ta, .int .i64 c.ac, .int .i64 c.ke, .int .i64 c.de, .int .i64 c.ts, .int .i64 c.kl, .int .i64 c.vl, .int .i64 c.fa] 28)).alloc (.cells (strs [s]).toArray 9)).cell? ⟨w.heap.size, 0, none⟩ = some (.int .i64 c.ta) ∧ ((w.alloc (.cells #[.int .i64 c.ta, .int .i64 c.ac, .int .i64 c.ke, .int .i64 c.de, .int .i64 c.ts, .int .i64 c.kl, .int .i64 c.vl, .int .i64 c.fa] 28)).alloc (.cells (strs [s]).toArray 9)).cell? ⟨w.heap.size, 1, none⟩ = some (.int .i64 c.ac) ∧ ((w.alloc (.cells #[.int .i64 c.ta, .int .i64 c.ac, .int .i64 c.ke, .int .i64 c.de, .int .i64 c.ts, .int .i64 c.kl, .int .i64 c.vl, .int .i64 c.fa] 28)).alloc (.cells (strs [s]).toArray 9)).cell? ⟨w.heap.size, 2, none⟩ = some (.int .i64 c.ke) ∧ ((w.alloc (.cells #[.int .i64 c.ta, .int .i64 c.ac, .int .i64 c.ke, .int .i64 c.de, .int .i64 c.ts, .int .i64 c.kl, .int .i64 c.vl, .int .i64 c.fa] 28)).alloc (.cells (strs [s]).toArray 9)).cell? ⟨w.heap.size, 3, none⟩ = some (.int .i64 c.de) ∧ ((w.alloc (.cells #[.int .i64 c.ta, .int .i64 c.ac, .int .i64 c.ke, .int .i64 c.de, .int .i64 c.ts, .int .i64 c.kl, .int .i64 c.vl, .int .i64 c.fa] 28)).alloc (.cells (strs [s]).toArray 9)).cell? ⟨w.heap.size, 4, none⟩ = some (.int .i64 c.ts) ∧ ((w.alloc (.cells #[.int .i64 c.ta, .int .i64 c.ac, .int .i64 c.ke, .int .i64 c.de, .int .i64 c.ts, .int .i64 c.kl, .int .i64 c.vl, .int .i64 c.fa] 28)).alloc (.cells (strs [s]).toArray 9)).cell? ⟨w.heap.size, 5, none⟩ = some (.int .i64 c.kl) ∧ ((w.alloc (.cells #[.int .i64 c.ta, .int .i64 c.ac, .int .i64 c.ke, .int .i64 c.de, .int .i64 c.ts, .int .i64 c.kl, .int .i64 c.vl, .int .i64 c.fa] 28)).alloc (.cells (strs [s]).toArray 9)).cell? ⟨w.heap.size, 6, none⟩ = some (.int .i64 c.vl) ∧ ((w.alloc (.cells #[.int .i64 c.ta, .int .i64 c.ac, .int .i64 c.ke, .int .i64 c.de, .int .i64 c.ts, .int .i64 c.kl, .int .i64 c.vl, .int .i64 c.fa] 28)).alloc (.cells (strs [s]).toArray 9)).cell? ⟨w.heap.size, 7, none⟩ = some (.int .i64 c.fa)) := by
      have h : ∀ j, ((w.alloc (.cells #[.int .i64 c.ta, .int .i64 c.ac, .int .i64 c.ke, .int .i64 c.de, .int .i64 c.ts, .int .i64 c.kl, .int .i64 c.vl, .int .i64 c.fa] 28)).alloc (.cells (strs [s]).toArray 9)).cell? ⟨w.heap.size, j, none⟩ = (#[.int .i64 c.ta, .int .i64 c.ac, .int .i64 c.ke, .int .i64 c.de, .int .i64 c.ts, .int .i64 c.kl, .int .i64 c.vl, .int .i64 c.fa] : Array Value)[j]? := fun j => cell_of_row _ _ j _ 28 (0, 0) (heap_alloc2_old w _ _)
      exact ⟨h 0, h 1, h 2, h 3, h 4, h 5, h 6, h 7⟩
    have hb0 : Below w.heap.size w ((w.alloc (.cells #[.int .i64 c.ta, .int .i64 c.ac, .int .i64 c.ke, .int .i64 c.de, .int .i64 c.ts, .int .i64 c.kl, .int .i64 c.vl, .int .i64 c.fa] 28)).alloc (.cells (strs [s]).toArray 9)) := ((Below.refl w.heap.size w).alloc (Nat.le_refl _) _).alloc (by simp) _
    have hz0 : w.heap.size < ((w.alloc (.cells #[.int .i64 c.ta, .int .i64 c.ac, .int .i64 c.ke, .int .i64 c.de, .int .i64 c.ts, .int .i64 c.kl, .int .i64 c.vl, .int .i64 c.fa] 28)).alloc (.cells (strs [s]).toArray 9)).heap.size := by simp; omega
    have Hb0 := Lib.hid hb0
    clear hb0
    go_enter Try.func5, Try.ntmps5
    go_wp2_with fail
    refine (long_any [s] _ 1 _ rfl (by omega) (heap_alloc2_new _ _ _) Hs1.out).mono ?_
    rintro x _ ⟨rfl, rfl⟩
    rw [Hl.out]
    have hS := Hc.out
    go_wp2_with fail
    go_region_held3 (fun w' => w'.cell? ⟨w.heap.size, 0, none⟩ = some (.int .i64 c.ta) ∧ w'.cell? ⟨w.heap.size, 1, none⟩ = some (.int .i64 c.ac) ∧ w'.cell? ⟨w.heap.size, 2, none⟩ = some (.int .i64 c.ke) ∧ w'.cell? ⟨w.heap.size, 3, none⟩ = some (.int .i64 c.de) ∧ w'.cell? ⟨w.heap.size, 4, none⟩ = some (.int .i64 c.ts) ∧ w'.cell? ⟨w.heap.size, 5, none⟩ = some (.int .i64 c.kl) ∧ w'.cell? ⟨w.heap.size, 6, none⟩ = some (.int .i64 c.vl) ∧ w'.cell? ⟨w.heap.size, 7, none⟩ = some (.int .i64 c.fa)) (first | go_keep | (go_split_ands; refine ⟨?_, ?_, ?_, ?_, ?_, ?_, ?_, ?_⟩ <;> exact keepc hb (by assumption))) (first | (go_at_call 13; refine (K1.out _).mono ?_; rintro e w2 ⟨rfl, hb⟩) | (go_at_call 28; refine (K2.out _).mono ?_; rintro e w2 ⟨rfl, hb⟩) | (go_at_call 14; refine (K3.out _).mono ?_; rintro e w2 ⟨rfl, hb⟩) | (go_at_call 29; refine (K4.out _).mono ?_; rintro e w2 ⟨rfl, hb⟩) | (go_at_call 15; refine (K5.out _).mono ?_; rintro e w2 ⟨rfl, hb⟩) | (go_at_call 30; refine (K6.out _).mono ?_; rintro e w2 ⟨rfl, hb⟩) | (go_at_call 16; refine (K7.out _).mono ?_; rintro e w2 ⟨rfl, hb⟩) | (go_at_call 31; refine (K8.out _).mono ?_; rintro e w2 ⟨rfl, hb⟩) | (go_at_call 11; refine (works_any _).mono ?_; rintro e w2 ⟨rfl, hb⟩))
    go_wp2_with fail
    go_ret
    refine ⟨rfl, ?_⟩
    repeat (first | exact Hb0.out | apply Below.drew | refine stepB ?_ (by assumption))
theorem walk (c : Conf) (s : ByteArray) (zs : s.size ≤ maxLen) (w : World) :
    Calls Try.prog 5 #[c.val, .string s] w fun e w' => e = .returned (.bool true) ∧ Below w.heap.size w w' := walk_in c s w zs


set_option maxRecDepth 100000 in
theorem lifted (os : Os) (started : os.Started) (H : Type) (enc : TypeId × Value → H) :
    ReturnsInHanded {} Try.checked os 5 .any (Rows.textMaySpec.pre6 enc Try.prog Try.f5 Rows.textMayRow.domain false) (Rows.textMaySpec.post enc Try.prog Try.f5 false true false false) := by
  refine returnsInHanded_of_change_sized (C := Try.checked) own started (by kernel_rfl) Try.func5
    (ChangeSpec.witness6 (enc := enc) (C := Try.checked) false ⟨#[], #[.agg #[.int .i64 0, .int .i64 0, .int .i64 0, .int .i64 0, .int .i64 0, .int .i64 0, .int .i64 0, .int .i64 0], .string ⟨#[]⟩], []⟩ 8 (by kernel_rfl) (by kernel_rfl) (by kernel_rfl) (by kernel_rfl)) ?_
  intro W base args ds gs before hval0 hW _ hsz _
  have hval : ∀ (j : Nat) t v, Try.f5.params[j]? = some t → args[j]? = some v → Value.okWide Try.prog W .any base t v := hval0
  have hW' := hW
  obtain ⟨p, q, hA0, hV, hbef, _, _⟩ := hW
  have hA : DataW.TrodAll enc Try.prog W 0 (fun _ => true) true Try.f5.params.toList args.toList ds p := hA0
  rw [Try.params5] at hA hval
  obtain ⟨v0, vs0, d0, ds0, p0, q0, hargs, rfl, rfl, h0, r0⟩ := trodAll_cons hA
  obtain ⟨v1, vs1, d1, ds1, p1, q1, rfl, rfl, rfl, h1, r1⟩ := trodAll_cons r0
  obtain ⟨rfl, rfl, rfl⟩ := trodAll_nil r1
  obtain rfl : args = #[v0, v1] := by cases args; simp_all
  obtain ⟨rfl, rfl⟩ := trodVars_none hV
  obtain ⟨c0, rfl⟩ := open_conf (hval 0 28 v0 rfl rfl) h0
  obtain ⟨s1, rfl, _, _, w1⟩ := open_string Try.underlying9 (hval 1 9 v1 rfl rfl) h1
  refine (walk c0 s1 w1 W).mono fun e W' ⟨he, hb⟩ => ?_
  subst he
  exact ⟨_, rfl, law_post laidOut (of_decide_eq_true (by kernel_rfl)) rfl Try.underlying4 rfl rfl hW' hb⟩

theorem over : Rows.textMayRow.holds Try.pinned (OpenSpec.ofChange Rows.textMaySpec) :=
  OpenClaim.holds_of_wide 5 Try.f5 rfl rfl rfl rfl rfl rfl rfl ⟨rfl, rfl, rfl, rfl, rfl⟩ rfl rfl rfl rfl rfl (by kernel_rfl) Try.func5 (by kernel_rfl)
    (of_decide_eq_true (by kernel_rfl)) (by unfold Func.isWrapper; first | (rw [if_pos (by decide +kernel)]; kernel_rfl) | (rw [if_neg (by decide +kernel)]; exact ⟨rfl, rfl⟩))
    (fun os started H enc _ => lifted os started H enc)

end Go.Proofs.Ytilaghjboiikdaa.textMay
namespace Go.Proofs.Ytilaghjboiikdaa
theorem textMay_holds : Rows.TextMaySaid := textMay.over
end Go.Proofs.Ytilaghjboiikdaa
