/- MY, MZ in one. -/
import Derived.Test.YtoinjnocopejjaaMW
import Derived.StillTailTactics
/- Answers; a transaction's number. -/
namespace Go.Proofs.Ytoinjnocopejjaa
open Go.ChangeShapes Go.WideShapes Go.ChangeAt Go.RowKit Go.Maps
set_option linter.unusedVariables false
set_option linter.unusedSimpArgs false
def pvc (p : Pr) : List Value := [.string p.1, .string p.2]
theorem pvc_len (p : Pr) : (pvc p).length = 2 := rfl
set_option maxRecDepth 100000 in
set_option maxHeartbeats 16000000 in
theorem elemP : RElem pvc 2 Try.prog 31 129 32 where
  und := Try.underlying31
  info := by
    have h : (Try.prog.info? 129).map (fun i => (i.zero, i.size, i.bytes)) = some (some (.agg #[.string ByteArray.empty, .string ByteArray.empty]), 2, 32) := by kernel_rfl
    cases hi : Try.prog.info? 129 with
    | none => rw [hi] at h; cases h
    | some i => rw [hi] at h; simp only [Option.map_some, Option.some.injEq, Prod.mk.injEq] at h; exact ⟨i, _, rfl, h.1, h.2.1, h.2.2, rfl⟩
  pos := by decide
  len := pvc_len
  one := fun x u hu => by
    rcases List.mem_cons.1 hu with rfl | hu
    · rfl
    · rw [List.mem_singleton.1 hu]; rfl
/-- a model's call ends so -/
def AnEnd (a : As) (s' : MS) (B p : Nat) (S : Nat → Prop) (w : World) (e : Ending) (w' : World) : Prop :=
  ∃ v, e = .returned (.agg #[.int .i64 a.1, .bool a.2.1, .string a.2.2.1, v]) ∧ ROwn pvc 2 w' w.heap.size 129 v a.2.2.2.length a.2.2.2 ∧ Mv s' B p S w w'
theorem anEnd0 {er : Int} {fo : Bool} {va : ByteArray} {s' : MS} {B p : Nat} {S : Nat → Prop} {w w' : World} (h : Mv s' B p S w w') : AnEnd (er, fo, va, []) s' B p S w (.returned (.agg #[.int .i64 er, .bool fo, .string va, .slice none 0 0])) w' :=
  ⟨_, rfl, ROwn.nil0 _ _ _, h⟩
theorem MdAt.wr {W : World} {B p : Nat} {s : MS} {x : MX} (h : MdAt W B p s x) {t n : Int} (hn : s.txns.length ≤ 100000) (hv : txW s t n ≠ 0) : ∃ (i k g off l c v : Nat), t = (i : Int) ∧ n - 1 = (k : Int) ∧ i < s.tasks.length ∧ k < l ∧ k ≤ 100000 ∧ W.cell? ⟨x.tb, i, none⟩ = some (.slice (some ⟨g, off, none⟩) l c) ∧ W.cell? ⟨g, off + k, none⟩ = some (.int .i64 (v : Int)) ∧ txW s t n = (v : Int) ∧ 1 ≤ v ∧ v ≤ s.txns.length := by
  rcases h.ok.tx t n with e | ⟨h1, h2, h3, h4, h5, h6, h7⟩
  · exact absurd e hv
  obtain ⟨A, c, hk, kt, hs⟩ := h.task (t := t.toNat) (by omega)
  have hi : t.toNat < s.tasks.length := by omega
  have el : s.tasks.getD t.toNat [] = s.tasks[t.toNat] := by rw [List.getD_eq_getElem?_getD, List.getElem?_eq_getElem hi]; rfl
  have hl2 : (s.tasks.getD t.toNat []).length ≤ s.txns.length := by rw [el]; exact (h.ok.nums _ (List.getElem_mem hi)).1
  obtain ⟨g, off, rfl, hg, hcell⟩ := hs.rd.2 (by omega)
  have hj : (n - 1).toNat < (s.tasks.getD t.toNat []).length := by omega
  clear el
  generalize s.tasks.getD t.toNat [] = L at *
  have hv2 : L[(n - 1).toNat]? = some (txW s t n) := by
    rw [h5, List.getD_eq_getElem?_getD, List.getElem?_eq_getElem hj]; rfl
  refine ⟨t.toNat, (n - 1).toNat, g, off, _, c, (txW s t n).toNat, by omega, by omega, hi, hj, by omega, kt, ?_, by omega, by omega, by omega⟩
  rw [hcell _ _ hv2]
  show some (Value.int .i64 _) = _
  rw [show ((txW s t n).toNat : Int) = txW s t n from by omega]
theorem named_of {k : Nat} (h : 2 ≤ k ∧ k ≤ 7) : namedK k = true := by unfold namedK; rw [decide_eq_true h.1, decide_eq_true h.2]; rfl
end Go.Proofs.Ytoinjnocopejjaa

/- put. -/
namespace Go.Proofs.Ytoinjnocopejjaa
open Go.ChangeShapes Go.WideShapes Go.ChangeAt Go.RowKit Go.Maps
set_option linter.unusedVariables false
set_option linter.unusedSimpArgs false
/-- cells of a block that is not the model's are written -/
theorem Mv.frame {s' : MS} {B p : Nat} {S : Nat → Prop} {w W W' : World} {q : Nat} (h : Mv s' B p S w W) (hb : Below q W W') (hq : w.heap.size ≤ q) (hk : ∀ k, k ≠ q → k < W.heap.size → W'.heap[k]? = W.heap[k]?) {c : Array Value} (hc : Blk W q c 33) : Mv s' B p S w W' := by
  obtain ⟨S', h1, h2, h3⟩ := h
  have hn := h1.out hc (by decide) (by decide) (by decide) (by decide)
  obtain ⟨x, hx, rfl⟩ := h1
  refine ⟨_, ⟨x, hx.keepS (fun k hk' => hk k (fun e => hn (e ▸ hk')) (hx.lt k hk').2) (fun g cur hg => hk g (fun e => by
    subst e
    have hc : W.heap[g]? = some (.cells c 33 (0, 0)) := hc
    rw [hc] at hg; simp only [Option.some.injEq, Obj.cells.injEq] at hg; exact absurd hg.2.1 (by decide)) (Array.getElem?_eq_some_iff.1 hg).1), rfl⟩, ?_, h3⟩
  exact ⟨hb.os.trans h2.os, hb.tape.trans h2.tape, hb.output.trans h2.output, Nat.le_trans h2.size hb.size, fun k hk' hn' => (hk k (by omega) (Nat.lt_of_lt_of_le hk' h2.size)).trans (h2.block k hk' hn')⟩
theorem mv_set4 {s' : MS} {B p : Nat} {S : Nat → Prop} {w W : World} {q : Nat} {c : Array Value} {v0 v1 v2 v3 : Value} (h : Mv s' B p S w W) (hc : Blk W q c 33) (hq : w.heap.size ≤ q := by first | exact Nat.le_succ _ | omega) : Mv s' B p S w ((((W.setCell ⟨q, 0, none⟩ v0).setCell ⟨q, 1, none⟩ v1).setCell ⟨q, 2, none⟩ v2).setCell ⟨q, 3, none⟩ v3) :=
  h.frame (((((Below.refl q W).setCell (p := ⟨q, 0, none⟩) (Nat.le_refl _) v0).setCell (p := ⟨q, 1, none⟩) (Nat.le_refl _) v1).setCell (p := ⟨q, 2, none⟩) (Nat.le_refl _) v2).setCell (p := ⟨q, 3, none⟩) (Nat.le_refl _) v3) hq
    (fun k hk _ => by rw [Below.heap_setCell _ _ _ _ hk, Below.heap_setCell _ _ _ _ hk, Below.heap_setCell _ _ _ _ hk, Below.heap_setCell _ _ _ _ hk]) hc
theorem AnEnd.of {R : MS × As} {a : As} {s' : MS} {B p : Nat} {S : Nat → Prop} {w w' : World} {e : Ending} (hR : R = (s', a)) (h : AnEnd a s' B p S w e w') : AnEnd R.2 R.1 B p S w e w' := by rw [hR]; exact h
theorem built33e (e : Int) : Try.prog.built 33 [(0, .int .i64 e)] = some #[.int .i64 e, .bool false, .string ⟨#[]⟩, .slice none 0 0] := by kernel_rfl
theorem built33z : Try.prog.built 33 [] = some #[.int .i64 0, .bool false, .string ⟨#[]⟩, .slice none 0 0] := by kernel_rfl
theorem built33v (v : ByteArray) : Try.prog.built 33 [(1, .bool true), (2, .string v)] = some #[.int .i64 0, .bool true, .string v, .slice none 0 0] := by kernel_rfl
theorem built33f (e : Int) (b : Bool) : Try.prog.built 33 [(0, .int .i64 e), (1, .bool b)] = some #[.int .i64 e, .bool b, .string ⟨#[]⟩, .slice none 0 0] := by kernel_rfl
theorem actM_put (s : MS) (t w tx li : Int) (ke en va : ByteArray) (eg : Nat) : actM s t w (3, tx, ke, en, va, li, eg) = if clashM s w (getR s ke) = true then (s, asE_ 33) else ((wrM s ke ⟨w, 0, false, va⟩).2, asE_ (wrM s ke ⟨w, 0, false, va⟩).1) := by
  show (if clashM s w (getR s ke) = true then (s, asE_ 33) else if fullM s ke = true then (s, asE_ 34) else (putM s ke ⟨w, 0, false, va⟩, as0)) = _
  split
  · rfl
  · unfold wrM
    split <;> rfl
set_option maxRecDepth 100000 in
set_option maxHeartbeats 16000000 in
theorem put_any (B p : Nat) (s : MS) (S : Nat → Prop) (t : Int) (tx li : Int) (ke en va : ByteArray) (kn eg : Nat) (w : World) (h : MR w B p s S) (h0 : refM s t (kn, tx, ke, en, va, li, eg) = 0) (hkn : kn = 3) (hn : s.txns.length ≤ 100000) (hx : COk (kn, tx, ke, en, va, li, eg)) : Calls Try.prog 54 #[.pointer (some ⟨p, 0, none⟩), .int .i64 t, .agg #[.int .u8 (kn : Int), .int .i64 tx, .string ke, .string en, .string va, .int .i64 li, .int .u8 (eg : Int)]] w (AnEnd (actM s t (txW s t tx) (kn, tx, ke, en, va, li, eg)).2 (actM s t (txW s t tx) (kn, tx, ke, en, va, li, eg)).1 B p S w) := by
  obtain ⟨x, h, rfl⟩ := h
  obtain ⟨_, _, hnm, hfit, _⟩ := refM_0 h0
  have hv := (hnm (named_of (by simp only; omega))).1
  simp only at hv
  obtain ⟨i, k, g, off, l, c, v, rfl, htx, hil, hkl, hkb, ct, cv, htv, hv1, hv2⟩ := h.wr hn hv
  have HFS : Hid (ke.size ≤ 64) := Lib.hid (fits_sz h.ok.may (x := (kn, tx, ke, en, va, li, eg)) (by simp only; omega) hfit)
  have HX := Lib.hid hx
  have HN := Lib.hid hn
  have HV := Lib.hid (And.intro hv1 hv2)
  rw [htv]
  obtain ⟨R, hR⟩ : ∃ R, actM s (i : Int) (v : Int) (kn, tx, ke, en, va, li, eg) = R := ⟨_, rfl⟩
  have HR := Lib.hid hR
  rw [hR]
  clear hR
  have hb2 : Below w.heap.size w ((w.alloc (.cells #[.int .u8 (kn : Int), .int .i64 tx, .string ke, .string en, .string va, .int .i64 li, .int .u8 (eg : Int)] 36)).alloc (.cells #[.int .i64 0, .bool false, .string ⟨#[]⟩, .slice none 0 0] 33)) := ((Below.refl _ _).alloc (Nat.le_refl _) _).alloc (by simp) _
  have HB := Lib.hid hb2
  have K5 : Hid (Blk ((w.alloc (.cells #[.int .u8 (kn : Int), .int .i64 tx, .string ke, .string en, .string va, .int .i64 li, .int .u8 (eg : Int)] 36)).alloc (.cells #[.int .i64 0, .bool false, .string ⟨#[]⟩, .slice none 0 0] 33)) w.heap.size #[.int .u8 (kn : Int), .int .i64 tx, .string ke, .string en, .string va, .int .i64 li, .int .u8 (eg : Int)] 36) := Lib.hid ((Blk.new w _ 36).alloc _)
  have K6 : Hid (Blk ((w.alloc (.cells #[.int .u8 (kn : Int), .int .i64 tx, .string ke, .string en, .string va, .int .i64 li, .int .u8 (eg : Int)] 36)).alloc (.cells #[.int .i64 0, .bool false, .string ⟨#[]⟩, .slice none 0 0] 33)) (w.heap.size + 1) #[.int .i64 0, .bool false, .string ⟨#[]⟩, .slice none 0 0] 33) := Lib.hid (Blk.new2 _ _ 33 (by simp))
  have HM := Lib.hid h
  obtain ⟨m, hm⟩ : ∃ m, s.tasks.length = m := ⟨_, rfl⟩
  have k11 := h.c0 11
  simp only [mdC, List.getElem?_cons_succ, List.getElem?_cons_zero] at k11
  rw [hm] at k11 hil
  have C11 := Lib.hid k11
  have CT := Lib.hid ct
  have CV := Lib.hid cv
  have i1 := idx107 x.tb 0 m m i (i : Int) rfl hil
  simp only [Nat.zero_add] at i1
  have i2 := idx85 g off l c k (k : Int) rfl hkl
  have wj : wrap64 (tx - 1) = (k : Int) := by unfold wrap64; omega
  have wj2 : IntKind.i64.wrap (tx - 1) = (k : Int) := by rw [htx]; exact IntWalk.i64_in _ (by omega)
  clear h h0 hnm hfit hv hx hn htx hil hkl hkb ct cv htv hv1 hv2 hb2 hm k11
  have HCW : Hid (∀ W : World, Below w.heap.size w W → Calls Try.prog 79 #[.pointer (some ⟨p, 0, none⟩), .int .i64 (v : Int), .string ke] W fun e w' => e = .returned (.bool (clashM s (v : Int) (getR s ke))) ∧ Below W.heap.size W w') := Lib.hid (fun W hW => clashm_any B p s _ v ke W ⟨x, HM.out.later hW, rfl⟩ HV.out.1 HV.out.2 HN.out HX.out.2.2.2.2.1)
  have HWW : Hid (∀ W : World, Below w.heap.size w W → Calls Try.prog 80 #[.pointer (some ⟨p, 0, none⟩), .string ke, .agg #[.int .i64 (v : Int), .int .i64 0, .bool false, .string va]] W (ErMv (wrM s ke ⟨v, 0, false, va⟩).1 (wrM s ke ⟨v, 0, false, va⟩).2 B p (MxS p x) W)) := Lib.hid (fun W hW => write_any B p s _ ke (v : Int) 0 false va W ⟨x, HM.out.later hW, rfl⟩ HX.out.2.2.2.2.1 (fun hf => HM.out.ok.put (by have := HV.out; simp only; omega) rfl HFS.out hf))
  have HA : Hid (R = if clashM s v (getR s ke) = true then (s, asE_ 33) else ((wrM s ke ⟨v, 0, false, va⟩).2, asE_ (wrM s ke ⟨v, 0, false, va⟩).1)) := Lib.hid (by rw [← HR.out, hkn]; exact actM_put ..)
  clear HX HN HV hkn HFS
  obtain ⟨cb, hcb⟩ : ∃ b, clashM s v (getR s ke) = b := ⟨_, rfl⟩
  rw [hcb] at HCW HA
  clear hcb HR
  generalize wrM s ke ⟨v, 0, false, va⟩ = wr at *
  obtain ⟨r, s'⟩ := wr
  simp only at HWW HA
  go_enter Try.func54, Try.ntmps54
  go_upto_region 1 with (fail)
  generalize ((w.alloc (.cells #[.int .u8 (kn : Int), .int .i64 tx, .string ke, .string en, .string va, .int .i64 li, .int .u8 (eg : Int)] 36)).alloc (.cells #[.int .i64 0, .bool false, .string ⟨#[]⟩, .slice none 0 0] 33)) = w2 at *
  have q11 := (HB.out.cell (p := ⟨p, 11, none⟩) (lt_of_cell C11.out)).trans C11.out
  have qt := (HB.out.cell (p := ⟨x.tb, i, none⟩) (lt_of_cell CT.out)).trans CT.out
  have qv := (HB.out.cell (p := ⟨g, off + k, none⟩) (lt_of_cell CV.out)).trans CV.out
  have z0 := K5.out.cell 0
  have z1 := K5.out.cell 1
  have z2 := K5.out.cell 2
  have z3 := K5.out.cell 3
  have z4 := K5.out.cell 4
  have z5 := K5.out.cell 5
  have z6 := K5.out.cell 6
  simp only [List.getElem?_toArray, List.getElem?_cons_zero, List.getElem?_cons_succ] at z0 z1 z2 z3 z4 z5 z6
  go_wp2
  go_quiet (fail)
  rename_i nq
  have hb3 : Below w2.heap.size w2 (w2.drewN nq) := below_drewN (Below.refl _ _) nq
  replace HB := Lib.hid (stepB HB.out hb3)
  replace K5 := Lib.hid (K5.out.later hb3)
  replace K6 := Lib.hid (K6.out.later hb3)
  clear hb3 z0 z1 z2 z3 z4 z5 z6 q11 qt qv
  generalize w2.drewN nq = w3 at *
  have z0 := K5.out.cell 0
  have z1 := K5.out.cell 1
  have z2 := K5.out.cell 2
  have z3 := K5.out.cell 3
  have z4 := K5.out.cell 4
  have z5 := K5.out.cell 5
  have z6 := K5.out.cell 6
  simp only [List.getElem?_toArray, List.getElem?_cons_zero, List.getElem?_cons_succ] at z0 z1 z2 z3 z4 z5 z6
  go_wp2_with fail
  refine (HCW.out _ HB.out).mono ?_
  rintro e w4 ⟨rfl, hb⟩
  replace HB := Lib.hid (stepB HB.out hb)
  replace K5 := Lib.hid (K5.out.later hb)
  replace K6 := Lib.hid (K6.out.later hb)
  clear hb
  clear z0 z1 z2 z3 z4 z5 z6
  cases cb with
  | true =>
    have u0 := K6.out.cell 0
    have u1 := K6.out.cell 1
    have u2 := K6.out.cell 2
    have u3 := K6.out.cell 3
    simp only [List.getElem?_toArray, List.getElem?_cons_zero, List.getElem?_cons_succ] at u0 u1 u2 u3
    have v0 := K6.out.frozen 0
    have v1 := K6.out.frozen 1
    have v2 := K6.out.frozen 2
    have v3 := K6.out.frozen 3
    have HS := Lib.hid (setB4 K6.out rfl (.int .i64 33) (.bool false) (.string ⟨#[]⟩) (.slice none 0 0) HB.out (Nat.le_succ _))
    go_wp2
    refine bodyPost_ret (results_cell_row rfl _ _ (w.heap.size + 1) 33 _ (0, 0) _ rfl HS.out.1 Try.underlying33 rfl (by kernel_rfl)) rfl ?_
    exact AnEnd.of (HA.out) (anEnd0 ((Mv.same ⟨x, HM.out, rfl⟩ HS.out.2)))
  | false =>
    have z0 := K5.out.cell 0
    have z1 := K5.out.cell 1
    have z2 := K5.out.cell 2
    have z3 := K5.out.cell 3
    have z4 := K5.out.cell 4
    have z5 := K5.out.cell 5
    have z6 := K5.out.cell 6
    simp only [List.getElem?_toArray, List.getElem?_cons_zero, List.getElem?_cons_succ] at z0 z1 z2 z3 z4 z5 z6
    go_wp2_with fail
    refine (HWW.out _ HB.out).mono ?_
    rintro e w5 ⟨rfl, hmv⟩
    have HMV := Lib.hid (hmv.after HB.out)
    have K65 : Hid (Blk w5 (w.heap.size + 1) #[.int .i64 0, .bool false, .string ⟨#[]⟩, .slice none 0 0] 33) := Lib.hid (by
      obtain ⟨S', _, hf, _⟩ := hmv
      exact hf.blk K6.out (fun e => by have := (HM.out.lt _ e).2; omega))
    clear hmv z0 z1 z2 z3 z4 z5 z6
    have u0 := K65.out.cell 0
    have u1 := K65.out.cell 1
    have u2 := K65.out.cell 2
    have u3 := K65.out.cell 3
    simp only [List.getElem?_toArray, List.getElem?_cons_zero, List.getElem?_cons_succ] at u0 u1 u2 u3
    have v0 := K65.out.frozen 0
    have v1 := K65.out.frozen 1
    have v2 := K65.out.frozen 2
    have v3 := K65.out.frozen 3
    have HS := Lib.hid (setB4 K65.out rfl (.int .i64 r) (.bool false) (.string ⟨#[]⟩) (.slice none 0 0) (Below.refl (w.heap.size + 1) w5) (Nat.le_refl _))
    go_wp2
    refine bodyPost_ret (results_cell_row rfl _ _ (w.heap.size + 1) 33 _ (0, 0) _ rfl HS.out.1 Try.underlying33 rfl (by kernel_rfl)) rfl ?_
    exact AnEnd.of HA.out (anEnd0 (mv_set4 HMV.out K65.out))
end Go.Proofs.Ytoinjnocopejjaa
