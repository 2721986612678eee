/- The document's Alloc. -/
import Derived.Test.YtbnbhhmgfogjeaaJZ5
namespace Go.Proofs.Ytbnbhhmgfogjeaa
open Go.ChangeShapes Go.WideShapes Go.ChangeAt Go.RowKit Go.Maps
set_option linter.unusedVariables false
set_option linter.unusedSimpArgs false

theorem sl35 (g o m c n : Nat) (hn : n ≤ c) (W : World) : (Instr.slice 36 (.slice (some ⟨g, o, none⟩) m c) none (some (.int .i64 (n : Int))) none).run Try.prog W = .ok (.slice (some ⟨g, o, none⟩) n c) W := by
  have h1 : (0 : Int) ≤ (n : Int) ∧ (n : Int) ≤ (c : Int) := by omega
  go_simp
theorem idx35o (g o m c k : Nat) (i : Int) (hi : i = (k : Int)) (h : k < m) (W : World) : (Instr.indexAt 36 (.slice (some ⟨g, o, none⟩) m c) (.int .i64 i)).run Try.prog W = .ok (.pointer (some ⟨g, o + k, none⟩)) W := by
  subst hi
  have h1 : (0 : Int) ≤ (k : Int) ∧ (k : Int) < (m : Int) := by omega
  go_simp
theorem append_lies_sl {α : Type} {enc : α → Value} {P : Program} {t e : TypeId} {bytes : Nat} {w : World} {ops : Array Oper} {rest : List Oper} {o : Oper} {a : Act} {Q : Exit → Act → World → Prop} (E : Elem P t e enc bytes) (hgd : o.guard = .none) (s x : Operand)
    (ho : o.op = .call { callee := .builtin .append, args := #[s, x], argTypes := #[t, t] })
    (B : Nat) (v : Value) (n : Nat) (xs : List α) (hs : a.eval s = v) (hown : Ow enc w B e v n xs)
    (g0 : Nat) (y : α) (hx : a.eval x = .slice (some ⟨g0, 0, none⟩) 1 1) (hy : w.cell? ⟨g0, 0, none⟩ = some (enc y)) (hb : n + 1 ≤ 2000000) (hbb : bytes ≤ 1000) (hbase : B ≤ w.heap.size)
    (h : ∀ A' c' w', Ow enc w' B e (.slice A' (n + 1) c') (n + 1) (xs ++ [y]) → w.grownBy w' v.ownBlock → Nw w v (.slice A' (n + 1) c') → wpList P ops Q rest (a.put o.dst (.slice A' (n + 1) c')) w') :
    wpList P ops Q (o :: rest) a w := by
  obtain ⟨i0, z, hi, hz0, hz1, hz2, hz3⟩ := E.info
  have hbt : (n + 1) * bytes ≤ 2000000 * 1000 := Nat.mul_le_mul hb hbb
  refine wpList_append_lies w hgd s x t ho B e i0 z 1 bytes E.und hi hz0 hz1 hz2 hz3 (by decide) v n (xs.map enc) hs hown ⟨g0, 0, none⟩ 1 1 [enc y] hx rfl (fun j u hu => ?_) (fun u hu => ?_) (by decide) (by unfold maxLen; omega) (by omega) hbase w.heap.size rfl (fun g cap w' h1 h2 h3 _ => h _ _ _ ?_ h2 (fun k hk => ?_))
  · match j, hu with
    | 0, hu => simp only [List.getElem?_cons_zero, Option.some.injEq] at hu; subst hu; exact hy
  · simp only [List.mem_singleton] at hu; subst hu; exact E.one y
  · show World.ownsRow _ _ _ _ _ _ _
    rw [List.map_append]; exact h1
  · have e : k = g := by simpa [Value.ownBlock] using hk.symm
    subst e
    rcases h3 with h3 | h3
    · exact .inl h3
    · exact .inr (by omega)
section
variable {W W' : World} {B q s : Nat} {Bs : List ByteArray} {Us : List Bool} {Bk : List Nat} {vB vU vK vB2 vU2 : Value}
theorem Dx.ne_q (h : Dx W B q s Bs Us Bk vB vU vK) : some q ≠ vB.ownBlock ∧ some q ≠ vU.ownBlock := ⟨fun e => h.apart.1 e.symm, fun e => h.apart.2.1 e.symm⟩
theorem own_ne {v v' : Value} (h : ∀ k, v.ownBlock = some k → v'.ownBlock ≠ some k) : v.ownBlock = none ∨ v.ownBlock ≠ v'.ownBlock := by
  cases hv : v.ownBlock with
  | none => exact .inl rfl
  | some k => exact .inr (fun e => h k hv e.symm)
/-- a row of the page grew, and is the page's again -/
theorem Dx.growU {Us' : List Bool} (h : Dx W B q s Bs Us Bk vB vU vK) (hg : W.grownBy W' vU.ownBlock) (ho : Ow bv W' B 4 vU2 Us'.length Us') : Blk W' q #[.int .i64 (s : Int), vB, vU, vK] 107 ∧ Dx (W'.setCell ⟨q, 2, none⟩ vU2) B q s Bs Us' Bk vB vU2 vK := by
  have hb := h.blk.grown hg h.ne_q.2
  have hB2 : Ow sv W' B 9 vB Bs.length Bs := World.ownsRow.kept h.oB hg (own_ne (fun k e => (h.apart.2.2.2.1 k e).1))
  have hK2 : Ks W' B vK Bk := h.oK.keep hg.size (fun k e => hg.block k ((Array.getElem?_eq_some_iff.1 (h.oK.tg k e).2.choose_spec).1) (fun e2 => h.apart.2.2.2.2 k e2.symm e))
  exact ⟨hb, h.hq, hb.set (j := 2) vU2, ow_set hB2 q 2 vU2 h.apart.1, ow_set ho q 2 vU2 (ow_nq ho hb (by decide)), hK2.set q 2 vU2 h.apart.2.2.1⟩
theorem Dx.growB {Bs' : List ByteArray} (h : Dx W B q s Bs Us Bk vB vU vK) (hg : W.grownBy W' vB.ownBlock) (ho : Ow sv W' B 9 vB2 Bs'.length Bs') : Blk W' q #[.int .i64 (s : Int), vB, vU, vK] 107 ∧ Dx (W'.setCell ⟨q, 1, none⟩ vB2) B q s Bs' Us Bk vB2 vU vK := by
  have hb := h.blk.grown hg h.ne_q.1
  have hU2 : Ow bv W' B 4 vU Us.length Us := World.ownsRow.kept h.oU hg (own_ne (fun k e e2 => (h.apart.2.2.2.1 k e2).1 e))
  have hK2 : Ks W' B vK Bk := h.oK.keep hg.size (fun k e => hg.block k ((Array.getElem?_eq_some_iff.1 (h.oK.tg k e).2.choose_spec).1) (fun e2 => (h.apart.2.2.2.1 k e2.symm).2 e))
  exact ⟨hb, h.hq, hb.set (j := 1) vB2, ow_set ho q 1 vB2 (ow_nq ho hb (by decide)), ow_set hU2 q 1 vB2 h.apart.2.1, hK2.set q 1 vB2 h.apart.2.2.1⟩
theorem Nw.trans {w w2 : World} {a b c : Value} (h : Nw w a b) (k : Nw w2 b c) (hs : w.heap.size ≤ w2.heap.size) : Nw w a c := fun j e => by
  rcases k j e with e2 | e2
  · exact h j e2
  · exact .inr (Nat.le_trans hs e2)
end
set_option maxRecDepth 100000 in
set_option maxHeartbeats 8000000 in
theorem dalloc_any (B q s : Nat) (st : PS) (Bs : List ByteArray) (Us : List Bool) (Bk : List Nat) (vB vU vK : Value) (w : World) (h : Dx w B q s Bs Us Bk vB vU vK) (hr : Rel s st Bs Us Bk) (hi : InvS s st) (hB : B ≤ w.heap.size) (hs4 : s ≤ 4096) : Calls Try.prog 51 #[.pointer (some ⟨q, 0, none⟩)] w fun e w' => e = .returned (.tuple #[.int .u16 (alO s st), .int .i64 (alE s st)]) ∧ DEnd B q s (alS s st) vB vU vK w w' := by
  obtain ⟨m, C, bs, F⟩ := st
  have hs := Inv.s2 hi
  have hms : m * s ≤ 4096 := Inv.le hi
  have hm2 : m * 2 ≤ m * s := Nat.mul_le_mul_left _ hs
  have hct : C.length + F.length = m := Inv.ct hi
  have hbk : F = Bk.reverse.map (fun k => k * s) := hr.bk.symm
  have hbl : F.length = Bk.length := by rw [hbk]; simp
  have hul : Us.length = m := hr.um
  have hbm : Bs.length = m := hr.bm
  have hmd : m ≤ 4096 / s := (Nat.le_div_iff_mul_le (by omega)).2 hms
  have hdl : 4096 / s ≤ 4096 := Nat.div_le_self _ _
  have hBkl : Bk.length ≤ 4096 := by omega
  have hbA : Below w.heap.size w (w.alloc (.cells (madeCells #[.int .u8 0] s) 5)) := (Below.refl _ _).alloc (Nat.le_refl _) _
  have c0 := h.blk.cell 0
  simp only [List.getElem?_toArray, List.getElem?_cons_zero] at c0
  have hmk := fun W => mk_z s (by omega) W
  have hcv := conv_z s w
  have HD := Lib.hid (h.later hbA)
  have HBA := Lib.hid hbA
  have HRL := Lib.hid hr
  have HI := Lib.hid hi
  have HBL : Hid (blank s = strOfNums (List.replicate s 0)) := rfl
  clear h hbA hr hi
  obtain ⟨AK, cK, hvK, _⟩ := HD.out.oK.sl
  obtain ⟨AU, cU, hvU, _⟩ := Ow.sl HD.out.oU
  subst hvK
  subst hvU
  rw [← HBL.out] at hcv
  go_enter Try.func51, Try.ntmps51
  go_upto_region 2 with (fail)
  have HSZ : Hid (w.heap.size ≤ (w.alloc (.cells (madeCells #[.int .u8 0] s) 5)).heap.size) := HBA.out.size
  generalize w.alloc (.cells (madeCells #[.int .u8 0] s) 5) = w1 at *
  clear hmk hcv c0
  have c0 := HD.out.blk.cell 0
  have c2 := HD.out.blk.cell 2
  have c3 := HD.out.blk.cell 3
  simp only [List.getElem?_toArray, List.getElem?_cons_zero, List.getElem?_cons_succ] at c0 c2 c3
  rcases List.eq_nil_or_concat Bk with hBk | ⟨Bk', k, hBk⟩
  · subst hBk
    have hFn : F = [] := hbk
    subst hFn
    have hCm : C.length = m := by simpa using hct
    have HCM := Lib.hid hCm
    have d1 : decide ((0 : Int) < (([] : List Nat).length : Int)) = false := by decide
    have hz1 : ¬ (s = 0) := by omega
    have hz2 : (s == 0) = false := by rw [beq_eq_false_iff_ne]; omega
    have hz3 : ((s : Int) == 0) = false := by rw [beq_eq_false_iff_ne]; omega
    have hqs := quo_s hs
    obtain ⟨rr, hrr⟩ : ∃ rr : Nat, 4096 / s = rr := ⟨_, rfl⟩
    rw [hrr] at hqs hmd hdl
    have hq1 := hqs.1
    have hq2 := hqs.2
    have HRR0 := Lib.hid hrr
    have HMS := Lib.hid hms
    have HUL := Lib.hid hul
    have HBM := Lib.hid hbm
    clear hqs hct hbk hbl hCm hBkl hm2 hms hul hbm
    have c0' : ∀ n, (w1.drewN n).cell? ⟨q, 0, none⟩ = some (.int .i64 (s : Int)) := fun n => ((below_drewN (Below.refl _ _) n).cell (p := ⟨q, 0, none⟩) HD.out.blk.lt).trans c0
    have c2' : ∀ n, (w1.drewN n).cell? ⟨q, 2, none⟩ = some (.slice AU Us.length cU) := fun n => ((below_drewN (Below.refl _ _) n).cell (p := ⟨q, 2, none⟩) HD.out.blk.lt).trans c2
    by_cases hfull : m = rr
    · have dg : decide ((rr : Int) ≤ (Us.length : Int)) = true := decide_eq_true (by have := HUL.out; omega)
      have dg' : decide (rr ≤ Us.length) = true := decide_eq_true (by have := HUL.out; omega)
      have hCf : C.length = 4096 / s := by rw [HCM.out, hrr]; exact hfull
      have hal : alS s (m, C, bs, []) = (m, C, bs, []) := by unfold alS; rw [if_pos hCf]
      have hao : alO s (m, C, bs, []) = 0 := by unfold alO; rw [if_pos hCf]
      have hae : alE s (m, C, bs, []) = 41 := by unfold alE; rw [if_pos hCf]
      have HAL := Lib.hid hal
      have HAO := Lib.hid hao
      have HAE := Lib.hid hae
      clear hal hao hae hCf hfull hrr
      go_upto_region 8 with (fail)
      go_quiet (fail)
      have hbq : Below w1.heap.size w1 (w1.drewN nq) := below_drewN (Below.refl _ _) nq
      have HD1 := Lib.hid (HD.out.later hbq)
      have HS1 := Lib.hid (stepB HBA.out hbq)
      clear c0' c2' c0 c2 c3 hbq hq1 hq2
      generalize w1.drewN nq = w2 at *
      go_wp2
      go_ret2
      refine ⟨?_, ?_⟩
      · show Ending.returned (.tuple #[.int .u16 0, .int .i64 41]) = _
        rw [HAO.out, HAE.out]
      · rw [HAL.out]
        exact ⟨Bs, Us, [], vB, .slice AU Us.length cU, .slice AK _ cK, HD1.out, HRL.out, FrD.of_below HS1.out, Nw.refl, Nw.refl, Nw.refl⟩
    · have dg : decide ((rr : Int) ≤ (Us.length : Int)) = false := decide_eq_false (by have := HUL.out; omega)
      have dg' : decide (rr ≤ Us.length) = false := decide_eq_false (by have := HUL.out; omega)
      have hCf : ¬ C.length = 4096 / s := by rw [HCM.out, hrr]; exact hfull
      have hal : alS s (m, C, bs, []) = (m + 1, putC C ((m * s : Nat) : Int), fillZ bs (m * s) s, []) := by unfold alS; rw [if_neg hCf]
      have hao : alO s (m, C, bs, []) = ((m * s : Nat) : Int) := by unfold alO; rw [if_neg hCf]; rfl
      have hae : alE s (m, C, bs, []) = 0 := by unfold alE; rw [if_neg hCf]
      have HAL := Lib.hid hal
      have HAO := Lib.hid hao
      have HAE := Lib.hid hae
      have hm1 : (m + 1) * s ≤ 4096 := (Nat.le_div_iff_mul_le (by omega)).1 (by rw [hrr]; omega)
      have HRF := Lib.hid (rel_fresh HRL.out HI.out hm1)
      clear hal hao hae hCf hfull hrr hm1
      go_upto_region 8 with (fail)
      go_quiet (fail)
      have hbq : Below w1.heap.size w1 (w1.drewN nq) := below_drewN (Below.refl _ _) nq
      have HD1 := Lib.hid (HD.out.later hbq)
      have HS1 := Lib.hid (stepB HBA.out hbq)
      clear c0' c2' c0 c2 c3 hbq hq1 hq2
      generalize w1.drewN nq = w2 at *
      have c2 := HD1.out.blk.cell 2
      simp only [List.getElem?_toArray, List.getElem?_cons_zero, List.getElem?_cons_succ] at c2
      have hbx : Below w2.heap.size w2 (w2.alloc (.cells #[.bool true] 4)) := (Below.refl _ _).alloc (Nat.le_refl _) _
      have HDX := Lib.hid (HD1.out.later hbx)
      have HSX := Lib.hid (stepB HS1.out hbx)
      have HXC : Hid ((w2.alloc (.cells #[.bool true] 4)).cell? ⟨w2.heap.size, 0, none⟩ = some (bv true)) := (Blk.new w2 #[.bool true] 4).cell 0
      have HBX := Lib.hid (Nat.le_trans hB HSX.out.size)
      have hUl : Us.length ≤ 4096 := by have := HUL.out; omega
      clear hbx
      go_wp2_with (first
        | (at_builtin; refine append_lies_sl elemB rfl (.tmp 79) (.tmp 80) rfl B _ Us.length Us rfl HDX.out.oU w2.heap.size true rfl HXC.out (by omega) (by decide) HBX.out ?_; intro A4 c4 w4 ho4 hg4)
        | fail)
      intro hn4
      have hgo := HDX.out.growU hg4 (Us' := Us ++ [true]) (by rw [List.length_append]; exact ho4)
      have HB4 := Lib.hid hgo.1
      have HD5 := Lib.hid hgo.2
      have HF5 : Hid (FrD w (w4.setCell ⟨q, 2, none⟩ (.slice A4 (Us.length + 1) c4)) q vB (.slice AU Us.length cU)) := ((FrD.of_below HSX.out).trans (FrD.grow_U hg4) Nw.refl Nw.refl).trans (FrD.set_q _ _) Nw.refl Nw.refl
      have HNU : Hid (Nw w (.slice AU Us.length cU) (.slice A4 (Us.length + 1) c4)) := Nw.trans Nw.refl hn4 HSX.out.size
      have HSZ5 : Hid (w.heap.size ≤ (w4.setCell ⟨q, 2, none⟩ (.slice A4 (Us.length + 1) c4)).heap.size) := by
        have h1 := HSX.out.size
        have h2 := hg4.size
        show _ ≤ _
        simp at h1 h2 ⊢
        omega
      have q2 := HB4.out.cell 2
      have qf := HB4.out.frozen 2
      simp only [List.getElem?_toArray, List.getElem?_cons_zero, List.getElem?_cons_succ] at q2
      clear ho4 hg4 hn4 hgo HXC HDX HSX HD1 c2
      go_upto_region 11 with (fail)
      generalize w4.setCell ⟨q, 2, none⟩ (.slice A4 (Us.length + 1) c4) = w5 at *
      clear q2 qf HB4
      have c1 := HD5.out.blk.cell 1
      simp only [List.getElem?_toArray, List.getElem?_cons_zero, List.getElem?_cons_succ] at c1
      have hbx : Below w5.heap.size w5 (w5.alloc (.cells #[.string (blank s)] 9)) := (Below.refl _ _).alloc (Nat.le_refl _) _
      have HDX := Lib.hid (HD5.out.later hbx)
      have HFX := Lib.hid (HF5.out.trans (FrD.of_below (vB := vB) (vU := .slice AU Us.length cU) hbx) Nw.refl Nw.refl)
      have HXC : Hid ((w5.alloc (.cells #[.string (blank s)] 9)).cell? ⟨w5.heap.size, 0, none⟩ = some (sv (blank s))) := (Blk.new w5 #[.string (blank s)] 9).cell 0
      have HBX2 : Hid (B ≤ (w5.alloc (.cells #[.string (blank s)] 9)).heap.size) := Nat.le_trans hB (Nat.le_trans HSZ5.out hbx.size)
      have HSZ6 : Hid (w.heap.size ≤ (w5.alloc (.cells #[.string (blank s)] 9)).heap.size) := Nat.le_trans HSZ5.out hbx.size
      have hBl : Bs.length ≤ 4096 := by have := HBM.out; have := HUL.out; omega
      obtain ⟨AB, cB, hvB, _⟩ := Ow.sl HDX.out.oB
      subst hvB
      clear hbx
      go_wp2_with (first
        | (at_builtin; refine append_lies_sl elemS rfl (.tmp 88) (.tmp 90) rfl B _ Bs.length Bs rfl HDX.out.oB w5.heap.size (blank s) rfl HXC.out (by omega) (by decide) HBX2.out ?_; intro A6 c6 w6 ho6 hg6)
        | fail)
      intro hn6
      have hgo := HDX.out.growB hg6 (Bs' := Bs ++ [blank s]) (by rw [List.length_append]; exact ho6)
      have HB6 := Lib.hid hgo.1
      have HD7 := Lib.hid hgo.2
      have HF7 : Hid (FrD w (w6.setCell ⟨q, 1, none⟩ (.slice A6 (Bs.length + 1) c6)) q (.slice AB Bs.length cB) (.slice AU Us.length cU)) := (HFX.out.trans (FrD.grow_B hg6) Nw.refl Nw.refl).trans (FrD.set_q _ _) Nw.refl Nw.refl
      have HNB : Hid (Nw w (.slice AB Bs.length cB) (.slice A6 (Bs.length + 1) c6)) := Nw.trans Nw.refl hn6 HSZ6.out
      have q1 := HB6.out.cell 1
      have qf := HB6.out.frozen 1
      simp only [List.getElem?_toArray, List.getElem?_cons_zero, List.getElem?_cons_succ] at q1
      clear ho6 hg6 hn6 hgo HXC HDX HD5 c1 HF5 HFX
      go_upto_region 12 with (fail)
      generalize w6.setCell ⟨q, 1, none⟩ (.slice A6 (Bs.length + 1) c6) = w7 at *
      clear q1 qf HB6
      have c0 := HD7.out.blk.cell 0
      have c2 := HD7.out.blk.cell 2
      simp only [List.getElem?_toArray, List.getElem?_cons_zero, List.getElem?_cons_succ] at c0 c2
      have c0' : ∀ n, (w7.drewN n).cell? ⟨q, 0, none⟩ = some (.int .i64 (s : Int)) := fun n => ((below_drewN (Below.refl _ _) n).cell (p := ⟨q, 0, none⟩) HD7.out.blk.lt).trans c0
      have c2' : ∀ n, (w7.drewN n).cell? ⟨q, 2, none⟩ = some (.slice A4 (Us.length + 1) c4) := fun n => ((below_drewN (Below.refl _ _) n).cell (p := ⟨q, 2, none⟩) HD7.out.blk.lt).trans c2
      have hsub : ((Us.length + 1 : Nat) : Int) - 1 = (Us.length : Int) := by omega
      have hsub2 : (Us.length : Int) + 1 - 1 = (Us.length : Int) := by omega
      have wsub : IntKind.i64.wrap (Us.length : Int) = (Us.length : Int) := IntWalk.i64_in _ (by omega)
      obtain ⟨t, ht⟩ : ∃ t : Nat, Us.length * s = t := ⟨_, rfl⟩
      have ht4 : t ≤ 4096 := by rw [← ht, HUL.out]; exact HMS.out
      have hti : (Us.length : Int) * (s : Int) = (t : Int) := by rw [← ht]; simp
      have htw : IntKind.i64.wrap (t : Int) = (t : Int) := IntWalk.i64_in _ (by omega)
      have htu : IntKind.u16.wrap (t : Int) = (t : Int) := by simp [IntKind.wrap, IntKind.bits, IntKind.signed]; omega
      have HT : Hid (m * s = t) := by rw [← HUL.out]; exact ht
      clear ht
      go_quiet (fail)
      have hbq : Below w7.heap.size w7 (w7.drewN nq) := below_drewN (Below.refl _ _) nq
      have HD8 := Lib.hid (HD7.out.later hbq)
      have HF8 := Lib.hid (HF7.out.trans (FrD.of_below (vB := .slice AB Bs.length cB) (vU := .slice AU Us.length cU) hbq) Nw.refl Nw.refl)
      clear c0' c2' c0 c2 hbq hti htw htu hsub hsub2 wsub
      generalize w7.drewN nq = w8 at *
      go_wp2
      go_ret2
      refine ⟨?_, ?_⟩
      · show Ending.returned (.tuple #[.int .u16 (t : Int), .int .i64 0]) = _
        rw [HAO.out, HAE.out, HT.out]
      · rw [HAL.out]
        exact ⟨Bs ++ [blank s], Us ++ [true], [], .slice A6 (Bs.length + 1) c6, .slice A4 (Us.length + 1) c4, .slice AK _ cK, HD8.out, HRF.out, HF8.out, HNB.out, HNU.out, Nw.refl⟩
  · rw [List.concat_eq_append] at hBk
    subst hBk
    have hlen : (Bk' ++ [k]).length = Bk'.length + 1 := by simp
    obtain ⟨r, hF, hkm, hrel⟩ := rel_back HRL.out HI.out
    subst hF
    have hfull : ¬ C.length = 4096 / s := by simp at hct; omega
    have hal : alS s (m, C, bs, k * s :: r) = (m, putC C ((k * s : Nat) : Int), fillZ bs (k * s) s, r) := by unfold alS; rw [if_neg hfull]
    have hao : alO s (m, C, bs, k * s :: r) = ((k * s : Nat) : Int) := by unfold alO; rw [if_neg hfull]; rfl
    have hae : alE s (m, C, bs, k * s :: r) = 0 := by unfold alE; rw [if_neg hfull]
    have HAL := Lib.hid hal
    have HAO := Lib.hid hao
    have HAE := Lib.hid hae
    obtain ⟨_, _, e, hsK⟩ := HD.out.oK.sl
    cases e
    rw [hlen] at hsK c3 HD
    have HRR := Lib.hid hrel
    obtain ⟨gK, oK, rfl, hgK, hcK⟩ := hsK.rd.2 (by omega)
    have hck := hcK Bk'.length k (by simp)
    have hcap := hsK.le
    have hkU : k < Us.length := by omega
    have hkB : k < Bs.length := by omega
    obtain ⟨gB, cB, rfl, hgB, hcB, hfB⟩ := ow_at HD.out.oB (getS hkB)
    obtain ⟨gU, cU', eU, hgU, hcU, hfU⟩ := ow_at HD.out.oU (getB hkU)
    cases eU
    clear hal hao hae hsK hcK hbk hbl hlen hrel
    have d1 : decide ((0 : Int) < ((Bk'.length + 1 : Nat) : Int)) = true := decide_eq_true (by omega)
    have d1' : decide ((0 : Int) < (Bk'.length : Int) + 1) = true := decide_eq_true (by omega)
    have d1'' : decide (0 < Bk'.length + 1) = true := decide_eq_true (by omega)
    have hlB : Bk'.length ≤ 4096 := by simp at hBkl; omega
    clear hBkl
    have i5 := idx35o gK oK (Bk'.length + 1) cK Bk'.length (Bk'.length : Int) rfl (by omega)
    have i6 := sl35 gK oK (Bk'.length + 1) cK Bk'.length (by omega)
    have hsub : ((Bk'.length + 1 : Nat) : Int) - 1 = (Bk'.length : Int) := by omega
    have hsub2 : (Bk'.length : Int) + 1 - 1 = (Bk'.length : Int) := by omega
    have wsub : IntKind.i64.wrap (Bk'.length : Int) = (Bk'.length : Int) := IntWalk.i64_in _ (by omega)
    have c3' : ∀ n, (w1.drewN n).cell? ⟨q, 3, none⟩ = some (.slice (some ⟨gK, oK, none⟩) (Bk'.length + 1) cK) := fun n => ((below_drewN (Below.refl _ _) n).cell (p := ⟨q, 3, none⟩) HD.out.blk.lt).trans c3
    have hck' : ∀ n, (w1.drewN n).cell? ⟨gK, oK + Bk'.length, none⟩ = some (.int .i64 (k : Int)) := fun n => ((below_drewN (Below.refl _ _) n).cell (p := ⟨gK, oK + Bk'.length, none⟩) hgK).trans hck
    have hck2 : w1.cell? ⟨gK, oK + Bk'.length, none⟩ = some (.int .i64 (k : Int)) := hck
    have HCT := Lib.hid hct
    have HCAP : Hid (Bk'.length ≤ cK) := by show _ ≤ _; omega
    clear hck hct hcap
    go_upto_region 3 with (fail)
    go_quiet (fail)
    have hbq : Below w1.heap.size w1 (w1.drewN nq) := below_drewN (Below.refl _ _) nq
    have HD1 := Lib.hid (HD.out.later hbq)
    have HS1 := Lib.hid (stepB HBA.out hbq)
    clear c3' hck' hck2 c0 c2 c3 hcB hcU hfB hfU hbq i5
    generalize w1.drewN nq = w2 at *
    have c3 := HD1.out.blk.cell 3
    have f3 := HD1.out.blk.frozen 3
    simp only [List.getElem?_toArray, List.getElem?_cons_zero, List.getElem?_cons_succ] at c3
    go_upto_region 4 with (fail)
    go_still_tail 14, (by kernel_rfl)
    change wpList _ _ _ _ _ w2.drew
    have hbq : Below w2.heap.size w2 w2.drew := Below.drew (Below.refl _ _)
    have HD2 := Lib.hid (HD1.out.later hbq)
    have HS2 := Lib.hid (stepB HS1.out hbq)
    clear c3 f3 hbq HD1 HS1
    generalize w2.drew = w3 at *
    have c3 := HD2.out.blk.cell 3
    have f3 := HD2.out.blk.frozen 3
    simp only [List.getElem?_toArray, List.getElem?_cons_zero, List.getElem?_cons_succ] at c3
    have HK4 : Hid (Ks w3 B (.slice (some ⟨gK, oK, none⟩) Bk'.length cK) Bk') := by
      obtain ⟨_, _, e, hs3⟩ := HD2.out.oK.sl
      simp only [Value.slice.injEq] at e
      obtain ⟨rfl, _, rfl⟩ := e
      refine ⟨⟨_, _, rfl, ⟨⟨rfl, fun hn => ?_⟩, HCAP.out, fun e => by cases e⟩⟩, fun j hj => HD2.out.oK.tg j hj⟩
      obtain ⟨g5, o5, e5, h5, hc5⟩ := hs3.rd.2 (by simp)
      cases e5
      exact ⟨gK, oK, rfl, h5, fun j x hx => hc5 j x (by rw [List.getElem?_append_left (List.getElem?_eq_some_iff.1 hx).1]; exact hx)⟩
    have HD4 := Lib.hid (HD2.out.setK HK4.out)
    have HF4 : Hid (FrD w (w3.setCell ⟨q, 3, none⟩ (.slice (some ⟨gK, oK, none⟩) Bk'.length cK)) q (.slice (some ⟨gB, 0, none⟩) Bs.length cB) (.slice (some ⟨gU, 0, none⟩) Us.length cU)) := (FrD.of_below HS2.out).trans (FrD.set_q _ _) Nw.refl Nw.refl
    go_upto_region 5 with (fail)
    generalize w3.setCell ⟨q, 3, none⟩ (.slice (some ⟨gK, oK, none⟩) Bk'.length cK) = w4 at *
    clear c3 f3 HD2 HK4 i6 hsub hsub2 wsub
    have c2 := HD4.out.blk.cell 2
    simp only [List.getElem?_toArray, List.getElem?_cons_zero, List.getElem?_cons_succ] at c2
    have i7 := idx50 gU Us.length cU k (k : Int) rfl hkU
    obtain ⟨_, _, eU, _, hcU, hfU⟩ := ow_at HD4.out.oU (getB hkU)
    cases eU
    have HD5 := Lib.hid (HD4.out.elU (k := k) true)
    have HF5 := Lib.hid (HF4.out.trans (FrD.set_U (W := w4) (g := gU) (j := k) (.bool true)) Nw.refl Nw.refl)
    go_upto_region 6 with (fail)
    generalize w4.setCell ⟨gU, k, none⟩ (.bool true) = w5 at *
    clear c2 hcU hfU i7 HD4 HF4
    have c1 := HD5.out.blk.cell 1
    simp only [List.getElem?_toArray, List.getElem?_cons_zero, List.getElem?_cons_succ] at c1
    have i8 := idx49 gB Bs.length cB k (k : Int) rfl hkB
    obtain ⟨_, _, eB, _, hcB, hfB⟩ := ow_at HD5.out.oB (getS hkB)
    cases eB
    have HD6 := Lib.hid (HD5.out.elB (k := k) (blank s))
    have HF6 := Lib.hid (HF5.out.trans (FrD.set_B (W := w5) (g := gB) (j := k) (.string (blank s))) Nw.refl Nw.refl)
    go_upto_region 7 with (fail)
    generalize w5.setCell ⟨gB, k, none⟩ (.string (blank s)) = w6 at *
    clear c1 hcB hfB i8 HD5 HF5
    have c0 := HD6.out.blk.cell 0
    simp only [List.getElem?_toArray, List.getElem?_cons_zero, List.getElem?_cons_succ] at c0
    obtain ⟨t, ht⟩ : ∃ t : Nat, k * s = t := ⟨_, rfl⟩
    have ht4 : t ≤ 4096 := by rw [← ht]; exact Nat.le_trans (Nat.mul_le_mul_right s (by omega)) hms
    have hti : (k : Int) * (s : Int) = (t : Int) := by rw [← ht]; simp
    have htw : IntKind.i64.wrap (t : Int) = (t : Int) := IntWalk.i64_in _ (by omega)
    have htu : IntKind.u16.wrap (t : Int) = (t : Int) := by simp [IntKind.wrap, IntKind.bits, IntKind.signed]; omega
    have HT := Lib.hid ht
    clear ht
    go_wp2
    go_ret2
    refine ⟨?_, ?_⟩
    · show Ending.returned (.tuple #[.int .u16 (t : Int), .int .i64 0]) = _
      rw [HAO.out, HAE.out, HT.out]
    · rw [HAL.out]
      exact ⟨Bs.set k (blank s), Us.set k true, Bk', .slice (some ⟨gB, 0, none⟩) Bs.length cB, .slice (some ⟨gU, 0, none⟩) Us.length cU, .slice (some ⟨gK, oK, none⟩) Bk'.length cK, HD6.out, HRR.out, HF6.out, Nw.refl, Nw.refl, fun j e => .inl e⟩
end Go.Proofs.Ytbnbhhmgfogjeaa
