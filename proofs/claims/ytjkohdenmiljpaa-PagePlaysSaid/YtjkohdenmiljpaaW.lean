/- run: steps done to a page; which slots are used. -/
import Derived.Test.YtjkohdenmiljpaaU
import Derived.Deep.RegionWith
import Derived.LoopTactic
namespace Go.Proofs.Ytjkohdenmiljpaa
open Go.ChangeShapes Go.WideShapes Go.ChangeAt Go.RowKit Go.Maps
set_option linter.unusedVariables false
set_option linter.unusedSimpArgs false

theorem index54 (g off m c k : Nat) (i : Int) (hi : i = (k : Int)) (h : k < m) (W : World) : (Instr.indexAt 54 (.slice (some ⟨g, off, none⟩) m c) (.int .i64 i)).run Try.prog W = .ok (.pointer (some ⟨g, off + k, none⟩)) W := by
  subst hi
  have h1 : (0 : Int) ≤ (k : Int) ∧ (k : Int) < (m : Int) := by omega
  go_simp
def fl (U : List Int) (x : Int) (q : Nat) : List Int := (U.take q).filter fun y => decide (y ≠ x)
theorem fl_succ {U : List Int} {x : Int} {q : Nat} (h : q < U.length) : fl U x (q + 1) = fl U x q ++ (if U.getD q 0 = x then [] else [U.getD q 0]) := by
  unfold fl
  rw [List.take_add_one, List.filter_append, List.getElem?_eq_getElem h, List.getD_eq_getElem?_getD, List.getElem?_eq_getElem h]
  congr 1
  by_cases e : U[q] = x <;> simp [e]
theorem fl_end (U : List Int) (x : Int) : fl U x U.length = U.filter fun y => decide (y ≠ x) := by unfold fl; rw [List.take_length]
theorem fl_len (U : List Int) (x : Int) (q : Nat) : (fl U x q).length ≤ U.length := by
  unfold fl
  exact Nat.le_trans (List.length_filter_le _ _) (by rw [List.length_take]; omega)
/-- what run makes -/
def RunEnd (n : Nat) (slot : Int) (w : World) (e : Ending) (w' : World) : Prop :=
  (slot < 2 ∨ 4096 < slot) ∧ e = .returned (.tuple #[.pointer none, .slice none 0 0, .bool false]) ∧ Below w.heap.size w w' ∨
  ∃ (s p b m : Nat) (C bs : List Int) (F : List Nat) (U : List Int) (v : Value), slot = (s : Int) ∧ 2 ≤ s ∧ s ≤ 4096 ∧ e = .returned (.tuple #[.pointer (some ⟨p, 0, none⟩), v, .bool true]) ∧ Pg w' w.heap.size p b s m C bs F ∧ UC U C ∧ Ow uv w' w.heap.size 23 v U.length U ∧ Below w.heap.size w w'
theorem run_end {n s p b m : Nat} {C bs : List Int} {F : List Nat} {U : List Int} {v : Value} {w w' : World} (h1 : 2 ≤ s) (h2 : s ≤ 4096) (h3 : Pg w' w.heap.size p b s m C bs F) (h4 : UC U C) (h5 : Ow uv w' w.heap.size 23 v U.length U) (h6 : Below w.heap.size w w') : RunEnd n (s : Int) w (.returned (.tuple #[.pointer (some ⟨p, 0, none⟩), v, .bool true])) w' := .inr ⟨s, p, b, m, C, bs, F, U, v, rfl, h1, h2, rfl, h3, h4, h5, h6⟩
set_option maxRecDepth 100000 in
set_option maxHeartbeats 8000000 in
theorem run_any (A : Option Addr) (n c s : Nat) (S : List Stp) (w : World) (hS : Steps w.heap.size w A n S) (hn : n ≤ maxLen) (h2 : 2 ≤ s) (h4 : s ≤ 4096) : Calls Try.prog 28 #[.int .i64 (s : Int), .slice A n c] w (RunEnd n (s : Int) w) := by
  have HS := Lib.hid hS
  unfold maxLen at hn
  clear hS
  go_enter Try.func28, Try.ntmps28
  go_wp2_with fail
  refine (pg_new s w h2 h4).mono ?_
  rintro e w1 ⟨rfl, hp, hb⟩
  have HP := Lib.hid hp
  have HB := Lib.hid hb
  clear hp hb
  have hpb : w.heap.size ≤ w.heap.size + 1 := by omega
  have HPB := Lib.hid hpb
  clear hpb
  generalize w.heap.size + 1 = p at *
  obtain ⟨b, hb0⟩ : ∃ b, w.heap.size = b := ⟨_, rfl⟩
  have HBQ : Hid (w.heap.size ≤ b) := by show _ ≤ _; omega
  have HP : Hid (Pg w1 w.heap.size p b s 0 [] (List.replicate 4096 0) []) := by subst hb0; exact HP
  clear hb0
  go_wp2
  go_loopw [9, 10] (fun v i wr => ∃ (k m : Nat) (C bs : List Int) (F : List Nat) (U : List Int) (v9 : Value), k ≤ n ∧ i = .int .i64 k ∧ v = v9 ∧ Pg wr w.heap.size p b s m C bs F ∧ UC U C ∧ Ow uv wr w.heap.size 23 v9 U.length U ∧ Below w.heap.size w wr) (fun _ i _ => n - (intOf i).toNat)
  case atStart => exact ⟨0, 0, [], _, [], [], _, Nat.zero_le _, rfl, rfl, HP.out, UC.nil, Ow.none _ _ _, HB.out⟩
  case round =>
    obtain ⟨k, m, C, bs, F, U, v9, hk, rfl, rfl, hp, hu, ho, hb⟩ := hrel
    replace HP := Lib.hid hp
    replace HB := Lib.hid hb
    have HU := Lib.hid hu
    have HO := Lib.hid ho
    obtain ⟨Au, cu, rfl, hsu⟩ := Ow.sl ho
    clear hp hu ho hb hsu
    by_cases hlt : k < n
    · have d2 : decide ((k : Int) < (n : Int)) = true := decide_eq_true (by omega)
      have wk : IntKind.i64.wrap ((k : Int) + 1) = (k : Int) + 1 := IntWalk.i64_in _ (by omega)
      obtain ⟨g, off, rfl, hg, hcell⟩ := HS.out.2 (by omega)
      have i1 := sindex g off n c k (k : Int) rfl hlt
      obtain ⟨hc, hok⟩ := hcell k hlt
      obtain ⟨⟨kd, sa, so, st⟩, hx⟩ : ∃ x, S.getD k stp0 = x := ⟨_, rfl⟩
      rw [hx] at hc hok
      obtain ⟨x0, x1, x2, x3⟩ := hc
      simp only at x0 x1 x2 x3
      have HOK := Lib.hid hok
      have K0 : Hid (∀ W, Below w.heap.size w W → W.cell? ⟨g, off + k * 4, none⟩ = some (.int .u8 kd) ∧ W.cell? ⟨g, off + k * 4 + 1, none⟩ = some (.int .u16 sa) ∧ W.cell? ⟨g, off + k * 4 + 2, none⟩ = some (.int .u16 so) ∧ W.cell? ⟨g, off + k * 4 + 3, none⟩ = some (.string st)) := fun W hb => ⟨(hb.cell (p := ⟨g, off + k * 4, none⟩) hg).trans x0, (hb.cell (p := ⟨g, off + k * 4 + 1, none⟩) hg).trans x1, (hb.cell (p := ⟨g, off + k * 4 + 2, none⟩) hg).trans x2, (hb.cell (p := ⟨g, off + k * 4 + 3, none⟩) hg).trans x3⟩
      clear hcell hx hok x0 x1 x2 x3 hg
      obtain ⟨y0, y1, y2, y3⟩ := K0.out _ HB.out
      by_cases e0 : kd = 0
      · subst e0
        by_cases hr : C.length = 4096 / s
        · have HFU := Lib.hid (pg_full w.heap.size p b s m C bs F wr HP.out h4 hr)
          go_wp2_with fail
          refine HFU.out.mono ?_
          rintro e w2 ⟨rfl, hb⟩
          replace HP := Lib.hid (HP.out.later hb)
          replace HO := Lib.hid (Ow.later HO.out hb)
          replace HB := Lib.hid (stepB HB.out hb)
          clear hb HFU y0 y1 y2 y3
          go_wp2
          go_roundw
          case rel => exact ⟨k + 1, m, C, bs, F, U, _, by omega, by go_num, rfl, HP.out, HU.out, HO.out, HB.out⟩
          case measure => simp [intOf]; omega
        · have hr2 : C.length < 4096 / s := by have := HP.out.room.2; omega
          have HAL := Lib.hid (pg_alloc w.heap.size p b s m C bs F wr HP.out hr2)
          have hnw := pg_alloc_new HP.out hr2
          generalize allC s m C F = o at *
          go_wp2_with fail
          refine HAL.out.mono ?_
          rintro e w2 ⟨rfl, m2, F2, hp, hf⟩
          have hUL : U.length ≤ 4096 := by have := HU.out.len; have := HP.out.at_.ok.len; omega
          replace HO := Lib.hid (ow_fr HO.out HP.out.at_ hf)
          replace HB := Lib.hid (hf.below HB.out HB.out.size HPB.out HBQ.out)
          replace HP := Lib.hid hp
          replace HU := Lib.hid (HU.out.put hnw.1)
          have hb6 : Below w2.heap.size w2 (w2.alloc (.cells #[.int .u16 (o : Int)] 23)) := (Below.refl _ _).alloc (Nat.le_refl _) _
          have HX6 : Hid (Sl uv (w2.alloc (.cells #[.int .u16 (o : Int)] 23)) (some ⟨w2.heap.size, 0, none⟩) 1 1 [(o : Int)]) := Blk.sl (enc := uv) (xs := [(o : Int)]) (Blk.new w2 #[.int .u16 (o : Int)] 23)
          replace HP := Lib.hid (HP.out.later hb6)
          replace HO := Lib.hid (Ow.later HO.out hb6)
          replace HB := Lib.hid (stepB HB.out hb6)
          clear hp hf hb6 HAL hnw y0 y1 y2 y3
          go_wp2_with (at_builtin; refine wpList_append_sl elemU rfl (.tmp 42) (.tmp 44) rfl w.heap.size _ U.length U rfl HO.out (some ⟨w2.heap.size, 0, none⟩) 1 1 [(o : Int)] rfl HX6.out (by omega) (by decide) HB.out.size ?_; intro v7 w7 ho7)
          intro hg7
          replace HP := Lib.hid (HP.out.grown HO.out hg7)
          replace HB := Lib.hid (HB.out.grown hg7 HB.out.size (fun j hj => (Ow.lt HO.out j hj).1))
          have HO7 : Hid (Ow uv w7 w.heap.size 23 v7 (U ++ [(o : Int)]).length (U ++ [(o : Int)])) := by
            have e : (U ++ [(o : Int)]).length = U.length + 1 := by simp
            rw [e]; exact ho7
          clear ho7 hg7 HX6 HO
          go_wp2
          go_roundw
          case rel => exact ⟨k + 1, m2, _, _, F2, _, _, by omega, by go_num, rfl, HP.out, HU.out, HO7.out, HB.out⟩
          case measure => simp [intOf]; omega
      · have f0 : (kd == 0) = false := by rw [beq_eq_false_iff_ne]; exact e0
        by_cases e1 : kd = 1
        · subst e1
          have HRG := Lib.hid (offV_rg sa so s)
          go_wp2_with fail
          refine (off_any 1 sa so st s wr HOK.out.1 HOK.out.2.1 h4).mono ?_
          rintro e w2 ⟨rfl, hb⟩
          replace HP := Lib.hid (HP.out.later hb)
          replace HO := Lib.hid (Ow.later HO.out hb)
          replace HB := Lib.hid (stepB HB.out hb)
          clear hb y0 y1 y2 y3
          have KOFF : Hid (∀ W, Calls Try.prog 29 #[.agg #[.int .u8 1, .int .u16 sa, .int .u16 so, .string st], .int .i64 (s : Int)] W fun e w' => e = .returned (.int .u16 (offV sa so s)) ∧ Below W.heap.size W w') := fun W => off_any 1 sa so st s W HOK.out.1 HOK.out.2.1 h4
          generalize offV sa so (s : Int) = x at *
          by_cases hx : x ∈ C
          ·
            have HFR := Lib.hid (pg_free w.heap.size p b s m C bs F x w2 HP.out hx)
            go_wp2_with fail
            refine HFR.out.mono ?_
            rintro e w3 ⟨rfl, bs2, F2, hp, hf, _⟩
            have hUL : U.length ≤ 4096 := by have := HU.out.len; have := HP.out.at_.ok.len; omega
            have HUD := Lib.hid (HU.out.del HP.out.at_.ok.up hx)
            replace HO := Lib.hid (ow_fr HO.out HP.out.at_ hf)
            replace HB := Lib.hid (hf.below HB.out HB.out.size HPB.out HBQ.out)
            replace HP := Lib.hid hp
            clear hp hf HFR hx HU
            go_wp2
            go_loopw [13, 14] (fun r j wq => ∃ (q : Nat) (v13 : Value), q ≤ U.length ∧ j = .int .i64 q ∧ r = v13 ∧ Ow uv wq w3.heap.size 23 v13 (fl U x q).length (fl U x q) ∧ Below w3.heap.size w3 wq) (fun _ j _ => U.length - (intOf j).toNat)
            case atStart => exact ⟨0, _, Nat.zero_le _, rfl, rfl, Ow.none _ _ _, Below.refl _ _⟩
            case round =>
              obtain ⟨wq, rfl⟩ : ∃ wq : World, wq = wr := ⟨_, rfl⟩
              obtain ⟨q, v13, hq, rfl, rfl, hrr, hbq⟩ := hrel
              have HR := Lib.hid hrr
              have HBQ3 := Lib.hid hbq
              obtain ⟨Ar, cr, rfl, _⟩ := Ow.sl hrr
              clear hrr hbq
              by_cases hql : q < U.length
              · have d5 : decide ((q : Int) < (U.length : Int)) = true := decide_eq_true (by omega)
                have wq1 : IntKind.i64.wrap ((q : Int) + 1) = (q : Int) + 1 := IntWalk.i64_in _ (by omega)
                obtain ⟨A5, c5, e5, hsl⟩ := Ow.sl (Ow.later HO.out HBQ3.out)
                cases e5
                obtain ⟨gu, ou, rfl, hgu, hcu⟩ := hsl.rd.2 (by omega)
                have i5 := index54 gu ou U.length cu q (q : Int) rfl hql
                have hz := hcu q (U.getD q 0) (by rw [List.getD_eq_getElem?_getD, List.getElem?_eq_getElem hql]; rfl)
                have HS5 := Lib.hid (fl_succ (x := x) hql)
                have hfl := fl_len U x q
                generalize U.getD q 0 = z at *
                have KU : Hid (∀ W, Below wq.heap.size wq W → W.cell? ⟨gu, ou + q, none⟩ = some (.int .u16 z)) := fun W hb => (hb.cell (p := ⟨gu, ou + q, none⟩) hgu).trans hz
                have hbd : Below wq.heap.size wq wq.drew := Below.drew (Below.refl _ _)
                have c1 := KU.out _ hbd
                obtain ⟨z0, z1, z2, z3⟩ := K0.out _ (stepB HB.out (stepB HBQ3.out hbd))
                clear hsl hcu hgu hz
                by_cases ez : z = x
                · have dz : (z != x) = false := by rw [ez]; simp
                  rw [if_pos ez, List.append_nil] at HS5
                  clear ez
                  go_upto_region 19 with (fail)
                  go_region_with (first
                    | (go_at_call 29; refine (KOFF.out _).mono ?_; rintro e wz ⟨rfl, hbz⟩; have hbz2 := stepB hbd hbz; have c2 := KU.out _ hbz2; have c3 := KU.out _ (stepB hbz2 (Below.drew (Below.refl _ _)))))
                  all_goals (
                    have hbz3 : Below wq.heap.size wq wz.drew := stepB hbz2 (Below.drew (Below.refl _ _))
                    have HBZ := Lib.hid hbz2
                    have HBZ3 := Lib.hid hbz3
                    clear hbz hbz2 hbz3 hbd c1 c2 c3 z0 z1 z2 z3
                    go_wp2_with fail
                    go_roundw
                    case rel =>
                      first
                      | exact ⟨q + 1, _, by omega, by go_num, rfl, by rw [HS5.out]; exact Ow.later HR.out HBZ.out, stepB HBQ3.out HBZ.out⟩
                      | exact ⟨q + 1, _, by omega, by go_num, rfl, by rw [HS5.out]; exact Ow.later HR.out HBZ3.out, stepB HBQ3.out HBZ3.out⟩
                    case measure => simp [intOf]; omega)
                · have dz : (z != x) = true := by rw [bne_iff_ne]; exact ez
                  rw [if_neg ez] at HS5
                  clear ez
                  go_upto_region 19 with (fail)
                  go_region_with (first
                    | (go_at_call 29; refine (KOFF.out _).mono ?_; rintro e wz ⟨rfl, hbz⟩; have hbz2 := stepB hbd hbz; have c2 := KU.out _ hbz2; have c3 := KU.out _ (stepB hbz2 (Below.drew (Below.refl _ _)))))
                  all_goals (
                    obtain ⟨wy, hwy⟩ : ∃ wy : World, wy = wz.drew := ⟨_, rfl⟩
                    have HBY : Hid (Below wq.heap.size wq wz) := hbz2
                    have hb6 : Below wz.heap.size wz (wz.alloc (.cells #[.int .u16 z] 23)) := (Below.refl _ _).alloc (Nat.le_refl _) _
                    have HX6 : Hid (Sl uv (wz.alloc (.cells #[.int .u16 z] 23)) (some ⟨wz.heap.size, 0, none⟩) 1 1 [z]) := Blk.sl (enc := uv) (xs := [z]) (Blk.new wz #[.int .u16 z] 23)
                    have HR6 := Lib.hid (Ow.later HR.out (stepB HBY.out hb6))
                    have HB6 := Lib.hid (stepB HBQ3.out (stepB HBY.out hb6))
                    clear hbz hbd c1 z0 z1 z2 z3 hwy hb6 hbz2
                    go_wp2_with (at_builtin; refine wpList_append_sl elemU rfl (.tmp 74) (.tmp 79) rfl w3.heap.size _ (fl U x q).length (fl U x q) rfl HR6.out (some ⟨wz.heap.size, 0, none⟩) 1 1 [z] rfl HX6.out (by omega) (by decide) HB6.out.size ?_; intro v7 w7 ho7)
                    intro hg7
                    have HB7 := Lib.hid (HB6.out.grown hg7 HB6.out.size (fun j hj => (Ow.lt HR6.out j hj).1))
                    have HR7 : Hid (Ow uv w7 w3.heap.size 23 v7 (fl U x (q + 1)).length (fl U x (q + 1))) := by
                      have e : (fl U x (q + 1)).length = (fl U x q).length + 1 := by rw [HS5.out]; simp
                      rw [e, HS5.out]; exact ho7
                    clear ho7 hg7 HX6 HR6 HB6 c2 c3
                    go_wp2
                    go_roundw
                    case rel => exact ⟨q + 1, _, by omega, by go_num, rfl, HR7.out, HB7.out⟩
                    case measure => simp [intOf]; omega)
              · obtain rfl : q = U.length := by omega
                have d5 : decide ((U.length : Int) < (U.length : Int)) = false := decide_eq_false (by omega)
                have HRF : Hid (Ow uv wq w.heap.size 23 (.slice Ar (fl U x U.length).length cr) (U.filter fun y => decide (y ≠ x)).length (U.filter fun y => decide (y ≠ x))) := by
                  have := Ow.base HR.out HB.out.size
                  rw [fl_end] at this ⊢
                  exact this
                have HP9 := Lib.hid (HP.out.later HBQ3.out)
                have HB9 := Lib.hid (stepB HB.out HBQ3.out)
                clear HR HO
                go_wp2
                go_roundw
                case rel => exact ⟨k + 1, m, delC C x, bs2, F2, _, _, by omega, by go_num, rfl, HP9.out, HUD.out, HRF.out, HB9.out⟩
                case measure => simp [intOf]; omega
          · have HFN := Lib.hid (pg_free_no w.heap.size p b s m C bs F x w2 HP.out (wf16 HRG.out.1 HRG.out.2) hx)
            go_wp2_with fail
            refine HFN.out.mono ?_
            rintro e w3 ⟨rfl, hb⟩
            replace HP := Lib.hid (HP.out.later hb)
            replace HO := Lib.hid (Ow.later HO.out hb)
            replace HB := Lib.hid (stepB HB.out hb)
            clear hb HFN KOFF hx
            go_wp2
            go_roundw
            case rel => exact ⟨k + 1, m, C, bs, F, U, _, by omega, by go_num, rfl, HP.out, HU.out, HO.out, HB.out⟩
            case measure => simp [intOf]; omega
        · have f1 : (kd == 1) = false := by rw [beq_eq_false_iff_ne]; exact e1
          by_cases e2 : kd = 2
          · subst e2
            have HRG := Lib.hid (offV_rg sa so s)
            have KOFF : Hid (∀ W, Calls Try.prog 29 #[.agg #[.int .u8 2, .int .u16 sa, .int .u16 so, .string st], .int .i64 (s : Int)] W fun e w' => e = .returned (.int .u16 (offV sa so s)) ∧ Below W.heap.size W w') := fun W => off_any 2 sa so st s W HOK.out.1 HOK.out.2.1 h4
            generalize offV sa so (s : Int) = x at *
            have KWR : Hid (∀ W, Below wr.heap.size wr W → Calls Try.prog 13 #[.pointer (some ⟨p, 0, none⟩), .int .u16 x, .string st] W fun e w' => ∃ (r : Int) (bs' : List Int), e = .returned (.int .i64 r) ∧ Pg w' w.heap.size p b s m C bs' F ∧ Fr W w' p b) := fun W hb => (pg_write w.heap.size p b s m C bs F x st W (HP.out.later hb) (wf16 HRG.out.1 HRG.out.2) h4).mono (fun e w' ⟨⟨r, he⟩, bs', h1, h2, _⟩ => ⟨r, bs', he, h1, h2⟩)
            have hbd : Below wr.heap.size wr wr.drew := Below.drew (Below.refl _ _)
            obtain ⟨z0, z1, z2, z3⟩ := K0.out _ (stepB HB.out hbd)
            go_upto_region 23 with (fail)
            go_region_with (first
              | (go_at_call 29; refine (KOFF.out _).mono ?_; rintro e wz ⟨rfl, hbz⟩; have hbz2 := stepB hbd hbz; obtain ⟨q0, q1, q2, q3⟩ := K0.out _ (stepB HB.out hbz2); obtain ⟨t0, t1, t2, t3⟩ := K0.out _ (stepB HB.out (stepB hbz2 (Below.drew (Below.refl _ _)))))
              | (go_at_call 13; refine (KWR.out _ (by first | exact hbz2 | exact stepB hbz2 (Below.drew (Below.refl _ _)))).mono ?_; rintro e wy ⟨r, bs', rfl, hp, hf⟩))
            all_goals (
              have HO2 : Hid (Ow uv wy w.heap.size 23 (.slice Au U.length cu) U.length U) := by
                first
                | exact ow_fr (Ow.later HO.out hbz2) (HP.out.later hbz2).at_ hf
                | exact ow_fr (Ow.later HO.out (stepB hbz2 (Below.drew (Below.refl _ _)))) (HP.out.later (stepB hbz2 (Below.drew (Below.refl _ _)))).at_ hf
              have HB2 : Hid (Below w.heap.size w wy) := by
                first
                | exact hf.below (stepB HB.out hbz2) (stepB HB.out hbz2).size HPB.out HBQ.out
                | exact hf.below (stepB HB.out (stepB hbz2 (Below.drew (Below.refl _ _)))) (stepB HB.out (stepB hbz2 (Below.drew (Below.refl _ _)))).size HPB.out HBQ.out
              have HP2 := Lib.hid hp
              clear hp hf z0 z1 z2 z3 q0 q1 q2 q3 t0 t1 t2 t3 y0 y1 y2 y3 hbz hbz2 hbd KWR KOFF
              go_wp2_with fail
              go_roundw
              case rel => exact ⟨k + 1, m, C, bs', F, U, _, by omega, by go_num, rfl, HP2.out, HU.out, HO2.out, HB2.out⟩
              case measure => simp [intOf]; omega)
          · have f2 : (kd == 2) = false := by rw [beq_eq_false_iff_ne]; exact e2
            go_wp2
            go_roundw
            case rel => exact ⟨k + 1, m, C, bs, F, U, _, by omega, by go_num, rfl, HP.out, HU.out, HO.out, HB.out⟩
            case measure => simp [intOf]; omega
    · obtain rfl : k = n := by omega
      have d2 : decide ((k : Int) < (k : Int)) = false := decide_eq_false (by omega)
      go_wp2
      go_ret3
      exact run_end h2 h4 HP.out HU.out HO.out HB.out
end Go.Proofs.Ytjkohdenmiljpaa
