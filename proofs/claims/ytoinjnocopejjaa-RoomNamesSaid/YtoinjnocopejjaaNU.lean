/- Do. -/
import Derived.Test.YtoinjnocopejjaaNT
import Derived.Test.YtoinjnocopejjaaNO
import Derived.StillTailTactics
namespace Go.Proofs.Ytoinjnocopejjaa
open Go.ChangeShapes Go.WideShapes Go.ChangeAt Go.RowKit Go.Maps
set_option linter.unusedVariables false
set_option linter.unusedSimpArgs false
def actF (k : Nat) : FuncId := [0, 52, 53, 54, 55, 56, 57, 58, 59, 60].getD k 0
set_option maxRecDepth 100000 in
set_option maxHeartbeats 4000000 in
theorem act_any (B p : Nat) (s : MS) (S : Nat → Prop) (t : Int) (tx li : Int) (ke en va : ByteArray) (kn eg : Nat) (w : World) (h : MR w B p s S) (h0 : refM s t (kn, tx, ke, en, va, li, eg) = 0) (hn : s.txns.length ≤ 100000) (hx : COk (kn, tx, ke, en, va, li, eg)) : Calls Try.prog (actF kn) #[.pointer (some ⟨p, 0, none⟩), .int .i64 t, .agg #[.int .u8 (kn : Int), .int .i64 tx, .string ke, .string en, .string va, .int .i64 li, .int .u8 (eg : Int)]] w (AnEnd (actM s t (txW s t tx) (kn, tx, ke, en, va, li, eg)).2 (actM s t (txW s t tx) (kn, tx, ke, en, va, li, eg)).1 B p S w) := by
  have hk := (refM_0 h0).2.1
  simp only at hk
  rcases (by omega : kn = 1 ∨ kn = 2 ∨ kn = 3 ∨ kn = 4 ∨ kn = 5 ∨ kn = 6 ∨ kn = 7 ∨ kn = 8 ∨ kn = 9) with e | e | e | e | e | e | e | e | e
  · rw [show actF kn = 52 from by rw [e]; rfl]; exact begin_any B p s S t tx li ke en va kn eg w h h0 e hn
  · rw [show actF kn = 53 from by rw [e]; rfl]; exact get_any B p s S t tx li ke en va kn eg w h h0 e hn hx
  · rw [show actF kn = 54 from by rw [e]; rfl]; exact put_any B p s S t tx li ke en va kn eg w h h0 e hn hx
  · rw [show actF kn = 55 from by rw [e]; rfl]; exact remove_any B p s S t tx li ke en va kn eg w h h0 e hn hx
  · rw [show actF kn = 56 from by rw [e]; rfl]; exact scan_any B p s S t tx li ke en va kn eg w h h0 e hn hx
  · rw [show actF kn = 57 from by rw [e]; rfl]; exact commit_any B p s S t tx li ke en va kn eg w h h0 e hn hx
  · rw [show actF kn = 58 from by rw [e]; rfl]; exact abort_any B p s S t tx li ke en va kn eg w h h0 e hn hx
  · rw [show actF kn = 59 from by rw [e]; rfl]; exact vacuum_any B p s S t tx li ke en va kn eg w h e hn
  · rw [show actF kn = 60 from by rw [e]; rfl]; exact migrate_any B p s S t tx li ke en va kn eg w h e
theorem idx116 (q k : Nat) (h : k < 10) (W : World) : (Instr.indexAt 116 (.pointer (some ⟨q, 0, none⟩)) (.int .u8 (k : Int))).run Try.prog W = .ok (.pointer (some ⟨q, k, none⟩)) W := by
  have h1 : (0 : Int) ≤ (k : Int) ∧ (k : Int) < 10 := by omega
  go_simp
set_option maxRecDepth 100000 in
set_option maxHeartbeats 1600000 in
theorem do_any (B p : Nat) (s : MS) (S : Nat → Prop) (t : Int) (tx li : Int) (ke en va : ByteArray) (kn eg : Nat) (w : World) (h : MR w B p s S) (hn : s.txns.length ≤ 100000) (hx : COk (kn, tx, ke, en, va, li, eg)) : Calls Try.prog 18 #[.pointer (some ⟨p, 0, none⟩), .int .i64 t, .agg #[.int .u8 (kn : Int), .int .i64 tx, .string ke, .string en, .string va, .int .i64 li, .int .u8 (eg : Int)]] w (AnEnd (doM s t (kn, tx, ke, en, va, li, eg)).2 (doM s t (kn, tx, ke, en, va, li, eg)).1 B p S w) := by
  have hb2 : Below w.heap.size w ((w.alloc (.cells #[.int .u8 (kn : Int), .int .i64 tx, .string ke, .string en, .string va, .int .i64 li, .int .u8 (eg : Int)] 36)).alloc (.cells #[.int .i64 0, .bool false, .string ⟨#[]⟩, .slice none 0 0] 33)) := ((Below.refl _ _).alloc (Nat.le_refl _) _).alloc (by simp) _
  have HB := Lib.hid hb2
  have K5 : Hid (Blk ((w.alloc (.cells #[.int .u8 (kn : Int), .int .i64 tx, .string ke, .string en, .string va, .int .i64 li, .int .u8 (eg : Int)] 36)).alloc (.cells #[.int .i64 0, .bool false, .string ⟨#[]⟩, .slice none 0 0] 33)) w.heap.size #[.int .u8 (kn : Int), .int .i64 tx, .string ke, .string en, .string va, .int .i64 li, .int .u8 (eg : Int)] 36) := Lib.hid ((Blk.new w _ 36).alloc _)
  have K6 : Hid (Blk ((w.alloc (.cells #[.int .u8 (kn : Int), .int .i64 tx, .string ke, .string en, .string va, .int .i64 li, .int .u8 (eg : Int)] 36)).alloc (.cells #[.int .i64 0, .bool false, .string ⟨#[]⟩, .slice none 0 0] 33)) (w.heap.size + 1) #[.int .i64 0, .bool false, .string ⟨#[]⟩, .slice none 0 0] 33) := Lib.hid (Blk.new2 _ _ 33 (by simp))
  have HM := Lib.hid h
  have HRF : Hid (∀ W : World, Below w.heap.size w W → Calls Try.prog 19 #[.pointer (some ⟨p, 0, none⟩), .int .i64 t, .agg #[.int .u8 (kn : Int), .int .i64 tx, .string ke, .string en, .string va, .int .i64 li, .int .u8 (eg : Int)]] W (ErEnd (refM s t (kn, tx, ke, en, va, li, eg)) W)) := Lib.hid (fun W hW => refused_any B p s S t (kn, tx, ke, en, va, li, eg) W (h.later hW) hn hx)
  have HAC : Hid (refM s t (kn, tx, ke, en, va, li, eg) = 0 → ∀ W : World, Below w.heap.size w W → Calls Try.prog (actF kn) #[.pointer (some ⟨p, 0, none⟩), .int .i64 t, .agg #[.int .u8 (kn : Int), .int .i64 tx, .string ke, .string en, .string va, .int .i64 li, .int .u8 (eg : Int)]] W (AnEnd (actM s t (txW s t tx) (kn, tx, ke, en, va, li, eg)).2 (actM s t (txW s t tx) (kn, tx, ke, en, va, li, eg)).1 B p S W)) := Lib.hid (fun h0 W hW => act_any B p s S t tx li ke en va kn eg W (h.later hW) h0 hn hx)
  have HD1 : Hid (refM s t (kn, tx, ke, en, va, li, eg) ≠ 0 → doM s t (kn, tx, ke, en, va, li, eg) = (s, asE_ (refM s t (kn, tx, ke, en, va, li, eg)))) := Lib.hid (fun h0 => by unfold doM; rw [if_pos h0])
  have HD2 : Hid (refM s t (kn, tx, ke, en, va, li, eg) = 0 → doM s t (kn, tx, ke, en, va, li, eg) = actM s t (txW s t tx) (kn, tx, ke, en, va, li, eg) ∧ 1 ≤ kn ∧ kn ≤ 9) := Lib.hid (fun h0 => ⟨by unfold doM; rw [if_neg (fun hne => hne h0)], (refM_0 h0).2.1⟩)
  generalize doM s t (kn, tx, ke, en, va, li, eg) = R at *
  generalize actM s t (txW s t tx) (kn, tx, ke, en, va, li, eg) = R2 at *
  generalize refM s t (kn, tx, ke, en, va, li, eg) = r at *
  clear hb2 h hn hx
  go_enter Try.func18, Try.ntmps18
  go_upto_region 1 with (fail)
  generalize ((w.alloc (.cells #[.int .u8 (kn : Int), .int .i64 tx, .string ke, .string en, .string va, .int .i64 li, .int .u8 (eg : Int)] 36)).alloc (.cells #[.int .i64 0, .bool false, .string ⟨#[]⟩, .slice none 0 0] 33)) = w2 at *
  have z0 := K5.out.cell 0
  have z1 := K5.out.cell 1
  have z2 := K5.out.cell 2
  have z3 := K5.out.cell 3
  have z4 := K5.out.cell 4
  have z5 := K5.out.cell 5
  have z6 := K5.out.cell 6
  simp only [List.getElem?_toArray, List.getElem?_cons_zero, List.getElem?_cons_succ] at z0 z1 z2 z3 z4 z5 z6
  go_wp2_with fail
  refine (HRF.out _ HB.out).mono ?_
  rintro e w3 ⟨rfl, hb⟩
  replace HB := Lib.hid (stepB HB.out hb)
  replace K5 := Lib.hid (K5.out.later hb)
  replace K6 := Lib.hid (K6.out.later hb)
  clear hb
  clear z0 z1 z2 z3 z4 z5 z6
  clear HRF
  by_cases hr : r = 0
  · have e0 : (r != 0) = false := by rw [hr]; rfl
    have HA := Lib.hid (HAC.out hr)
    have HD := Lib.hid (HD2.out hr)
    have hk := (HD2.out hr).2
    clear HAC HD2 HD1 hr
    have hb4 : Below w.heap.size w ((w3.alloc (.cells #[.nilFunc, .nilFunc, .nilFunc, .nilFunc, .nilFunc, .nilFunc, .nilFunc, .nilFunc, .nilFunc, .nilFunc] 116)).setRow w3.heap.size #[.nilFunc, .func (.func 52) #[] #[], .func (.func 53) #[] #[], .func (.func 54) #[] #[], .func (.func 55) #[] #[], .func (.func 56) #[] #[], .func (.func 57) #[] #[], .func (.func 58) #[] #[], .func (.func 59) #[] #[], .func (.func 60) #[] #[]]) := below_setRow (HB.out.alloc HB.out.size _) HB.out.size _
    have K8 : Hid (Blk ((w3.alloc (.cells #[.nilFunc, .nilFunc, .nilFunc, .nilFunc, .nilFunc, .nilFunc, .nilFunc, .nilFunc, .nilFunc, .nilFunc] 116)).setRow w3.heap.size #[.nilFunc, .func (.func 52) #[] #[], .func (.func 53) #[] #[], .func (.func 54) #[] #[], .func (.func 55) #[] #[], .func (.func 56) #[] #[], .func (.func 57) #[] #[], .func (.func 58) #[] #[], .func (.func 59) #[] #[], .func (.func 60) #[] #[]]) w3.heap.size #[.nilFunc, .func (.func 52) #[] #[], .func (.func 53) #[] #[], .func (.func 54) #[] #[], .func (.func 55) #[] #[], .func (.func 56) #[] #[], .func (.func 57) #[] #[], .func (.func 58) #[] #[], .func (.func 59) #[] #[], .func (.func 60) #[] #[]] 116) := Lib.hid (Blk.setRow_self (Blk.new w3 _ 116))
    have K54 : Hid (Blk ((w3.alloc (.cells #[.nilFunc, .nilFunc, .nilFunc, .nilFunc, .nilFunc, .nilFunc, .nilFunc, .nilFunc, .nilFunc, .nilFunc] 116)).setRow w3.heap.size #[.nilFunc, .func (.func 52) #[] #[], .func (.func 53) #[] #[], .func (.func 54) #[] #[], .func (.func 55) #[] #[], .func (.func 56) #[] #[], .func (.func 57) #[] #[], .func (.func 58) #[] #[], .func (.func 59) #[] #[], .func (.func 60) #[] #[]]) w.heap.size #[.int .u8 (kn : Int), .int .i64 tx, .string ke, .string en, .string va, .int .i64 li, .int .u8 (eg : Int)] 36) := Lib.hid (Blk.setRow (K5.out.alloc _) (fun e => by have := K5.out.lt; omega))
    have K64 : Hid (Blk ((w3.alloc (.cells #[.nilFunc, .nilFunc, .nilFunc, .nilFunc, .nilFunc, .nilFunc, .nilFunc, .nilFunc, .nilFunc, .nilFunc] 116)).setRow w3.heap.size #[.nilFunc, .func (.func 52) #[] #[], .func (.func 53) #[] #[], .func (.func 54) #[] #[], .func (.func 55) #[] #[], .func (.func 56) #[] #[], .func (.func 57) #[] #[], .func (.func 58) #[] #[], .func (.func 59) #[] #[], .func (.func 60) #[] #[]]) (w.heap.size + 1) #[.int .i64 0, .bool false, .string ⟨#[]⟩, .slice none 0 0] 33) := Lib.hid (Blk.setRow (K6.out.alloc _) (fun e => by have := K6.out.lt; omega))
    have HB4 := Lib.hid hb4
    clear hb4 hk
    go_upto_region 5 with (first | (refine wpList_store_row rfl 116 (.tmp 8) (.tmp 17) rfl w3.heap.size #[.nilFunc, .func (.func 52) #[] #[], .func (.func 53) #[] #[], .func (.func 54) #[] #[], .func (.func 55) #[] #[], .func (.func 56) #[] #[], .func (.func 57) #[] #[], .func (.func 58) #[] #[], .func (.func 59) #[] #[], .func (.func 60) #[] #[]] rfl rfl 116 #[.nilFunc, .nilFunc, .nilFunc, .nilFunc, .nilFunc, .nilFunc, .nilFunc, .nilFunc, .nilFunc, .nilFunc] (Blk.new w3 _ 116) (by kernel_rfl) rfl (by first | rfl | (simp [Value.oneCell']; done)) ?_) | go_in)
    generalize (w3.alloc (.cells #[.nilFunc, .nilFunc, .nilFunc, .nilFunc, .nilFunc, .nilFunc, .nilFunc, .nilFunc, .nilFunc, .nilFunc] 116)).setRow w3.heap.size #[.nilFunc, .func (.func 52) #[] #[], .func (.func 53) #[] #[], .func (.func 54) #[] #[], .func (.func 55) #[] #[], .func (.func 56) #[] #[], .func (.func 57) #[] #[], .func (.func 58) #[] #[], .func (.func 59) #[] #[], .func (.func 60) #[] #[]] = w4 at *
    generalize w3.heap.size = q8 at *
    have y : w4.cell? ⟨q8, kn, none⟩ = some (.func (.func (actF kn)) #[] #[]) := by
      have hk := HD.out.2
      rw [K8.out.cell]
      rcases (by omega : kn = 1 ∨ kn = 2 ∨ kn = 3 ∨ kn = 4 ∨ kn = 5 ∨ kn = 6 ∨ kn = 7 ∨ kn = 8 ∨ kn = 9) with rfl | rfl | rfl | rfl | rfl | rfl | rfl | rfl | rfl <;> rfl
    have i8 := idx116 q8 kn (by have := HD.out.2; omega)
    have z0 := K54.out.cell 0
    have z1 := K54.out.cell 1
    have z2 := K54.out.cell 2
    have z3 := K54.out.cell 3
    have z4 := K54.out.cell 4
    have z5 := K54.out.cell 5
    have z6 := K54.out.cell 6
    simp only [List.getElem?_toArray, List.getElem?_cons_zero, List.getElem?_cons_succ] at z0 z1 z2 z3 z4 z5 z6
    go_still_tail 7, (by kernel_rfl)
    change wpList _ _ _ _ _ (World.drew w4)
    have HB5 := Lib.hid (Below.drew HB4.out)
    have K65 : Hid (Blk (World.drew w4) (w.heap.size + 1) #[.int .i64 0, .bool false, .string ⟨#[]⟩, .slice none 0 0] 33) := Lib.hid K64.out
    clear HB4 K64 K54 K8 HB K5 K6 z0 z1 z2 z3 z4 z5 z6 y i8
    generalize World.drew w4 = w5 at *
    obtain ⟨fk, hfk, hk9⟩ : ∃ fk : Nat, actF kn = fk ∧ (fk = 52 ∨ fk = 53 ∨ fk = 54 ∨ fk = 55 ∨ fk = 56 ∨ fk = 57 ∨ fk = 58 ∨ fk = 59 ∨ fk = 60) := by
      have hk := HD.out.2
      rcases (by omega : kn = 1 ∨ kn = 2 ∨ kn = 3 ∨ kn = 4 ∨ kn = 5 ∨ kn = 6 ∨ kn = 7 ∨ kn = 8 ∨ kn = 9) with rfl | rfl | rfl | rfl | rfl | rfl | rfl | rfl | rfl <;> exact ⟨_, rfl, by decide⟩
    rw [hfk] at HA ⊢
    clear hfk
    rcases hk9 with rfl | rfl | rfl | rfl | rfl | rfl | rfl | rfl | rfl
    all_goals
      go_wp2_with fail
      refine (HA.out _ HB5.out).mono ?_
      rintro e w6 ⟨v, rfl, hro, hmv⟩
      have HMV := Lib.hid (hmv.after HB5.out)
      have HRO := Lib.hid (hro.base HB5.out.size)
      have K66 : Hid (Blk w6 (w.heap.size + 1) #[.int .i64 0, .bool false, .string ⟨#[]⟩, .slice none 0 0] 33) := Lib.hid (by
        obtain ⟨S', _, hf, _⟩ := hmv
        exact hf.blk K65.out (fun e => by have := (HM.out.lt _ e).2; omega))
      clear hmv hro HA
      have u0 := K66.out.cell 0
      have u1 := K66.out.cell 1
      have u2 := K66.out.cell 2
      have u3 := K66.out.cell 3
      simp only [List.getElem?_toArray, List.getElem?_cons_zero, List.getElem?_cons_succ] at u0 u1 u2 u3
      have v0 := K66.out.frozen 0
      have v1 := K66.out.frozen 1
      have v2 := K66.out.frozen 2
      have v3 := K66.out.frozen 3
      obtain ⟨A9, c9, rfl, _, _⟩ := HRO.out.sl
      have HS := Lib.hid (setB4 K66.out rfl (.int .i64 R2.2.1) (.bool R2.2.2.1) (.string R2.2.2.2.1) (.slice A9 R2.2.2.2.2.length c9) (Below.refl (w.heap.size + 1) w6) (Nat.le_refl _))
      have HRS := Lib.hid (HRO.out.set4 K66.out (by decide) (.int .i64 R2.2.1) (.bool R2.2.2.1) (.string R2.2.2.2.1) (.slice A9 R2.2.2.2.2.length c9))
      go_wp2
      refine bodyPost_ret (results_cell_row rfl _ _ (w.heap.size + 1) 33 _ (0, 0) _ rfl HS.out.1 Try.underlying33 rfl (by kernel_rfl)) rfl ?_
      rw [HD.out.1]
      exact ⟨_, rfl, HRS.out, mv_set4 HMV.out K66.out⟩
  · have e0 : (r != 0) = true := by rw [bne_iff_ne]; exact hr
    have HG := Lib.hid (HD1.out hr)
    clear hr HAC HD1 HD2
    have u0 := K6.out.cell 0
    have u1 := K6.out.cell 1
    have u2 := K6.out.cell 2
    have u3 := K6.out.cell 3
    simp only [List.getElem?_toArray, List.getElem?_cons_zero, List.getElem?_cons_succ] at u0 u1 u2 u3
    have v0 := K6.out.frozen 0
    have v1 := K6.out.frozen 1
    have v2 := K6.out.frozen 2
    have v3 := K6.out.frozen 3
    have HS := Lib.hid (setB4 K6.out rfl (.int .i64 r) (.bool false) (.string ⟨#[]⟩) (.slice none 0 0) HB.out (Nat.le_succ _))
    go_wp2
    refine bodyPost_ret (results_cell_row rfl _ _ (w.heap.size + 1) 33 _ (0, 0) _ rfl HS.out.1 Try.underlying33 rfl (by kernel_rfl)) rfl ?_
    exact AnEnd.of HG.out (anEnd0 (Mv.same HM.out HS.out.2))
end Go.Proofs.Ytoinjnocopejjaa
