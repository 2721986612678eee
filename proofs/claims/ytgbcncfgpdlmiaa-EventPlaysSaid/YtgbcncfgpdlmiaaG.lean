/- Events that are kept, in new memory: Events, Bare. -/
import Derived.Test.YtgbcncfgpdlmiaaF
namespace Go.Proofs.Ytgbcncfgpdlmiaa
open Go.ChangeShapes Go.WideShapes Go.ChangeAt Go.RowKit Go.Maps
set_option linter.unusedVariables false
set_option linter.unusedSimpArgs false

theorem idx32 (g off m c k : Nat) (i : Int) (hi : i = (k : Int)) (h : k < m) (W : World) : (Instr.indexAt 32 (.slice (some ⟨g, off, none⟩) m c) (.int .i64 i)).run Try.prog W = .ok (.pointer (some ⟨g, off + k * 7, none⟩)) W := by
  subst hi
  have h1 : (0 : Int) ≤ (k : Int) ∧ (k : Int) < (m : Int) := by omega
  go_simp
theorem EvO.more {W W' : World} {B n : Nat} {v v2 : Value} {Rs : List RE} {r : RE} (h : EvO W B v n Rs) (hg : W.grownBy W' v.ownBlock) (hr : POn W B r.2 r.1.2.2.2.2.2.2) (ho : ROwn evc 7 W' B 40 v2 (n + 1) (Rs ++ [r])) : EvO W' B v2 (n + 1) (Rs ++ [r]) := by
  refine ⟨ho, fun x hx => ?_⟩
  have hk : POn W B x.2 x.1.2.2.2.2.2.2 := by
    rcases List.mem_append.1 hx with hx | hx
    · exact h.po x hx
    · rw [List.mem_singleton.1 hx]; exact hr
  refine hk.keep hg.size (fun g e => hg.block g (hk.lt g e).2 (fun e2 => ?_))
  obtain ⟨_, cur, hc⟩ := hk.own g e
  obtain ⟨cur2, hc2⟩ := h.row.tag g e2.symm
  rw [hc] at hc2; cases hc2
def OwdEnd (L : List Ev) (w : World) (e : Ending) (w' : World) : Prop := ∃ A c n Rs, e = .returned (.slice A n c) ∧ EvO w' w.heap.size (.slice A n c) n Rs ∧ Rs.map Prod.fst = L ∧ Below w.heap.size w w'
abbrev allL (L : List Ev) : List Ev := L
theorem allL_succ (L : List Ev) (k : Nat) (e : Ev) (h : L[k]? = some e) : allL (L.take (k + 1)) = allL (L.take k) ++ [e] := by
  show L.take (k + 1) = L.take k ++ [e]
  rw [List.take_add_one, h]; rfl
def bareL (L : List Ev) : List Ev := L.filter (fun e => decide (e.1 ≠ 2))
theorem bareL_succ (L : List Ev) (k : Nat) (e : Ev) (h : L[k]? = some e) : bareL (L.take (k + 1)) = bareL (L.take k) ++ (if e.1 = 2 then [] else [e]) := by
  unfold bareL
  rw [List.take_add_one, h, List.filter_append]
  by_cases h2 : e.1 = 2 <;> simp [h2]
set_option maxRecDepth 100000 in
set_option maxHeartbeats 4000000 in
theorem keep36 (q : Value) (w : World) : Calls Try.prog 36 #[q] w fun e w' => e = .returned (.bool true) ∧ w = w' := by
  go_enter Try.func36, Try.ntmps36
  go_wp2
  go_ret
  exact ⟨rfl, rfl⟩
set_option maxRecDepth 100000 in
set_option maxHeartbeats 4000000 in
theorem keep48 (q : Nat) (wh : Int) (b : Bool) (w : World) (h : w.cell? ⟨q, 0, none⟩ = some (.int .u8 wh)) (hb : (wh != 2) = b) : Calls Try.prog 48 #[.pointer (some ⟨q, 0, none⟩)] w fun e w' => e = .returned (.bool b) ∧ w = w' := by
  go_enter Try.func48, Try.ntmps48
  go_wp2
  go_ret
  exact ⟨rfl, rfl⟩
set_option maxRecDepth 100000 in
set_option maxHeartbeats 4000000 in
theorem owned36 (A : Option Addr) (n c : Nat) (Rs : List RE) (w : World) (h : EvS w A n Rs) (hn : n ≤ 100000) (hp : ∀ r ∈ Rs, r.2.2.1 ≤ 100000) : Calls Try.prog 35 #[.slice A n c, .func (.func 36) #[] #[]] w (OwdEnd (allL (Rs.map Prod.fst)) w) := by
  have HS := Lib.hid h
  have HP0 := Lib.hid hp
  have HLN : Hid (Rs.length = n) := h.rd.1
  clear h hp
  go_enter Try.func35, Try.ntmps35
  go_wp2
  go_loopw [5, 10] (fun o i W => ∃ (k : Nat) (v : Value) (Rs' : List RE), k ≤ n ∧ i = .int .i64 k ∧ v = o ∧ EvO W w.heap.size v Rs'.length Rs' ∧ Rs'.map Prod.fst = allL ((Rs.map Prod.fst).take k) ∧ Rs'.length ≤ k ∧ Below w.heap.size w W) (fun _ i _ => n - (intOf i).toNat)
  case atStart => exact ⟨0, _, [], Nat.zero_le _, rfl, rfl, EvO.nil _ _, rfl, Nat.le_refl _, Below.refl _ _⟩
  case round =>
    obtain ⟨k, v, Rs', hk, rfl, rfl, ho, hm, hrl, hb⟩ := hrel
    have HO := Lib.hid ho
    have HMR := Lib.hid hm
    have HBW := Lib.hid hb
    clear ho hm hb
    by_cases hlt : k < n
    · have d1 : decide ((k : Int) < (n : Int)) = true := decide_eq_true (by omega)
      have wk : IntKind.i64.wrap ((k : Int) + 1) = (k : Int) + 1 := IntWalk.i64_in _ (by omega)
      obtain ⟨g, off, rfl, hg, hc⟩ := (HS.out.later HBW.out).rd.2 (by omega)
      have i5 := idx32 g off n c k (k : Int) rfl hlt
      have hrk : Rs[k]? = some (Rs[k]'(by rw [HLN.out]; exact hlt)) := List.getElem?_eq_getElem _
      have HPK := Lib.hid ((HS.out.later HBW.out).po _ (List.mem_of_getElem? hrk))
      have hn1 := HP0.out _ (List.mem_of_getElem? hrk)
      have HKS := Lib.hid (allL_succ (Rs.map Prod.fst) k _ (by rw [List.getElem?_map, hrk]; rfl))
      generalize Rs[k]'(by rw [HLN.out]; exact hlt) = r at *
      obtain ⟨⟨wh, t, cl, er, fo, va, ps⟩, A1, n1, c1⟩ := r
      have x0 := hc k _ hrk 0 (by decide)
      have x1 := hc k _ hrk 1 (by decide)
      have x2 := hc k _ hrk 2 (by decide)
      have x3 := hc k _ hrk 3 (by decide)
      have x4 := hc k _ hrk 4 (by decide)
      have x5 := hc k _ hrk 5 (by decide)
      have x6 := hc k _ hrk 6 (by decide)
      simp only [evc, hdv, List.getElem?_cons_zero, List.getElem?_cons_succ, Nat.add_zero] at x0 x1 x2 x3 x4 x5 x6
      simp only at hn1
      have hbx : Below wr.heap.size wr (wr.alloc (.cells #[.int .u8 wh, .int .i64 t, .int .i64 cl, .int .i64 er, .bool fo, .string va, .slice A1 n1 c1] 40)) := (Below.refl _ _).alloc (Nat.le_refl _) _
      have HP : Hid (PO (wr.alloc (.cells #[.int .u8 wh, .int .i64 t, .int .i64 cl, .int .i64 er, .bool fo, .string va, .slice A1 n1 c1] 40)) (A1, n1, c1) ps) := HPK.out.later hbx
      clear hc hrk hg HPK
      have HKE : Hid (allL ((Rs.map Prod.fst).take (k + 1)) = allL ((Rs.map Prod.fst).take k) ++ [(wh, t, cl, er, fo, va, ps)]) := HKS.out
      clear HKS
      go_wp2_with fail
      refine (keep36 (.pointer (some ⟨wr.heap.size, 0, none⟩)) (wr.alloc (.cells #[.int .u8 wh, .int .i64 t, .int .i64 cl, .int .i64 er, .bool fo, .string va, .slice A1 n1 c1] 40))).mono ?_
      rintro e w9 ⟨rfl, rfl⟩
      go_wp2_with fail
      refine (own_x wh t cl er fo va ps A1 n1 c1 (wr.alloc (.cells #[.int .u8 wh, .int .i64 t, .int .i64 cl, .int .i64 er, .bool fo, .string va, .slice A1 n1 c1] 40)) HP.out hn1).mono ?_
      rintro e w2 ⟨A2, n2, c2, rfl, hpo, hl2, hb⟩
      have HPO := Lib.hid (hpo.base (B' := w.heap.size) (Nat.le_trans HBW.out.size hbx.size))
      have HBW2 := Lib.hid (stepB (stepB HBW.out hbx) hb)
      have HO2 := Lib.hid ((HO.out.later hbx).later hb)
      clear hpo hl2 hb hbx HO HBW x0 x1 x2 x3 x4 x5 x6 i5
      have hby : Below w2.heap.size w2 (w2.alloc (.cells #[.int .u8 wh, .int .i64 t, .int .i64 cl, .int .i64 er, .bool fo, .string va, .slice A2 n2 c2] 40)) := (Below.refl _ _).alloc (Nat.le_refl _) _
      have HX3 : Hid (RSl evc 7 (w2.alloc (.cells #[.int .u8 wh, .int .i64 t, .int .i64 cl, .int .i64 er, .bool fo, .string va, .slice A2 n2 c2] 40)) (some ⟨w2.heap.size, 0, none⟩) 1 [((wh, t, cl, er, fo, va, ps), (A2, n2, c2))]) := Blk.rsl (x := ((wh, t, cl, er, fo, va, ps), (A2, n2, c2))) (Blk.new w2 _ 40)
      have HO3 := Lib.hid (HO2.out.later hby)
      have HP3 := Lib.hid (HPO.out.later hby)
      have HB3 := Lib.hid (stepB HBW2.out hby)
      clear hby
      obtain ⟨Av, cv, hv, _, _⟩ := HO3.out.row.sl
      subst hv
      go_wp2_with (first
        | (at_builtin; refine append_row1 elemEv rfl (.tmp 16) (.tmp 19) rfl w.heap.size (.slice Av Rs'.length cv) Rs'.length Rs' rfl HO3.out.row w2.heap.size 1 ((wh, t, cl, er, fo, va, ps), (A2, n2, c2)) rfl HX3.out (by omega) (by decide) HB3.out.size ?_; intro A4 c4 w4 ho4 hg4 hn4)
        | fail)
      intro hl4
      have HO4 := Lib.hid (HO3.out.more hg4 HP3.out ho4)
      have HB4 : Hid (Below w.heap.size w w4) := HB3.out.grown hg4 HB3.out.size (fun j e => (HO3.out.lt j e).1)
      clear ho4 hg4 hn4 hl4 HX3 HO3 HP3 HB3 HO2 HPO HBW2
      go_wp2
      go_roundw
      case rel => exact ⟨k + 1, _, Rs' ++ [((wh, t, cl, er, fo, va, ps), (A2, n2, c2))], by omega, by go_num, rfl, by rw [List.length_append]; exact HO4.out, by rw [List.map_append, HMR.out, HKE.out]; rfl, by simp; omega, HB4.out⟩
      case measure => simp [intOf]; omega
    · obtain rfl : k = n := by omega
      have d1 : decide ((k : Int) < (k : Int)) = false := decide_eq_false (by omega)
      have HME : Hid (Rs'.map Prod.fst = allL (Rs.map Prod.fst)) := by
        show _ = _
        rw [HMR.out, List.take_of_length_le (by rw [List.length_map, HLN.out]; exact Nat.le_refl _)]
      obtain ⟨Av, cv, hv, _, _⟩ := HO.out.row.sl
      subst hv
      go_wp2
      go_ret
      exact ⟨Av, cv, _, Rs', rfl, HO.out, HME.out, HBW.out⟩
set_option maxRecDepth 100000 in
set_option maxHeartbeats 4000000 in
theorem owned48 (A : Option Addr) (n c : Nat) (Rs : List RE) (w : World) (h : EvS w A n Rs) (hn : n ≤ 100000) (hp : ∀ r ∈ Rs, r.2.2.1 ≤ 100000) : Calls Try.prog 35 #[.slice A n c, .func (.func 48) #[] #[]] w (OwdEnd (bareL (Rs.map Prod.fst)) w) := by
  have HS := Lib.hid h
  have HP0 := Lib.hid hp
  have HLN : Hid (Rs.length = n) := h.rd.1
  clear h hp
  go_enter Try.func35, Try.ntmps35
  go_wp2
  go_loopw [5, 10] (fun o i W => ∃ (k : Nat) (v : Value) (Rs' : List RE), k ≤ n ∧ i = .int .i64 k ∧ v = o ∧ EvO W w.heap.size v Rs'.length Rs' ∧ Rs'.map Prod.fst = bareL ((Rs.map Prod.fst).take k) ∧ Rs'.length ≤ k ∧ Below w.heap.size w W) (fun _ i _ => n - (intOf i).toNat)
  case atStart => exact ⟨0, _, [], Nat.zero_le _, rfl, rfl, EvO.nil _ _, rfl, Nat.le_refl _, Below.refl _ _⟩
  case round =>
    obtain ⟨k, v, Rs', hk, rfl, rfl, ho, hm, hrl, hb⟩ := hrel
    have HO := Lib.hid ho
    have HMR := Lib.hid hm
    have HBW := Lib.hid hb
    clear ho hm hb
    by_cases hlt : k < n
    · have d1 : decide ((k : Int) < (n : Int)) = true := decide_eq_true (by omega)
      have wk : IntKind.i64.wrap ((k : Int) + 1) = (k : Int) + 1 := IntWalk.i64_in _ (by omega)
      obtain ⟨g, off, rfl, hg, hc⟩ := (HS.out.later HBW.out).rd.2 (by omega)
      have i5 := idx32 g off n c k (k : Int) rfl hlt
      have hrk : Rs[k]? = some (Rs[k]'(by rw [HLN.out]; exact hlt)) := List.getElem?_eq_getElem _
      have HPK := Lib.hid ((HS.out.later HBW.out).po _ (List.mem_of_getElem? hrk))
      have hn1 := HP0.out _ (List.mem_of_getElem? hrk)
      have HKS := Lib.hid (bareL_succ (Rs.map Prod.fst) k _ (by rw [List.getElem?_map, hrk]; rfl))
      generalize Rs[k]'(by rw [HLN.out]; exact hlt) = r at *
      obtain ⟨⟨wh, t, cl, er, fo, va, ps⟩, A1, n1, c1⟩ := r
      have x0 := hc k _ hrk 0 (by decide)
      have x1 := hc k _ hrk 1 (by decide)
      have x2 := hc k _ hrk 2 (by decide)
      have x3 := hc k _ hrk 3 (by decide)
      have x4 := hc k _ hrk 4 (by decide)
      have x5 := hc k _ hrk 5 (by decide)
      have x6 := hc k _ hrk 6 (by decide)
      simp only [evc, hdv, List.getElem?_cons_zero, List.getElem?_cons_succ, Nat.add_zero] at x0 x1 x2 x3 x4 x5 x6
      simp only at hn1
      have hbx : Below wr.heap.size wr (wr.alloc (.cells #[.int .u8 wh, .int .i64 t, .int .i64 cl, .int .i64 er, .bool fo, .string va, .slice A1 n1 c1] 40)) := (Below.refl _ _).alloc (Nat.le_refl _) _
      have HP : Hid (PO (wr.alloc (.cells #[.int .u8 wh, .int .i64 t, .int .i64 cl, .int .i64 er, .bool fo, .string va, .slice A1 n1 c1] 40)) (A1, n1, c1) ps) := HPK.out.later hbx
      clear hc hrk hg HPK
      by_cases h2 : wh = 2
      · have HKE : Hid (bareL ((Rs.map Prod.fst).take (k + 1)) = bareL ((Rs.map Prod.fst).take k)) := HKS.out.trans (by simp [h2])
        have HWB : Hid ((wh != 2) = false) := by show _ = _; rw [h2]; rfl
        clear HKS h2
        go_wp2_with fail
        refine (keep48 wr.heap.size wh false (wr.alloc (.cells #[.int .u8 wh, .int .i64 t, .int .i64 cl, .int .i64 er, .bool fo, .string va, .slice A1 n1 c1] 40)) (by rw [Blk.cell (Blk.new wr _ 40)]; rfl) HWB.out).mono ?_
        rintro e w9 ⟨rfl, rfl⟩
        have hb9 := stepB HBW.out hbx
        have HO9 := Lib.hid (HO.out.later hbx)
        have HB9 := Lib.hid hb9
        clear hb9 hbx HO HBW x0 x1 x2 x3 x4 x5 x6 i5
        go_wp2
        go_roundw
        case rel => exact ⟨k + 1, _, _, by omega, by go_num, rfl, HO9.out, HMR.out.trans HKE.out.symm, by omega, HB9.out⟩
        case measure => simp [intOf]; omega
      · have HKE : Hid (bareL ((Rs.map Prod.fst).take (k + 1)) = bareL ((Rs.map Prod.fst).take k) ++ [(wh, t, cl, er, fo, va, ps)]) := HKS.out.trans (by simp [h2])
        have HWB : Hid ((wh != 2) = true) := by show _ = _; simp [h2]
        clear HKS h2
        go_wp2_with fail
        refine (keep48 wr.heap.size wh true (wr.alloc (.cells #[.int .u8 wh, .int .i64 t, .int .i64 cl, .int .i64 er, .bool fo, .string va, .slice A1 n1 c1] 40)) (by rw [Blk.cell (Blk.new wr _ 40)]; rfl) HWB.out).mono ?_
        rintro e w9 ⟨rfl, rfl⟩
        go_wp2_with fail
        refine (own_x wh t cl er fo va ps A1 n1 c1 (wr.alloc (.cells #[.int .u8 wh, .int .i64 t, .int .i64 cl, .int .i64 er, .bool fo, .string va, .slice A1 n1 c1] 40)) HP.out hn1).mono ?_
        rintro e w2 ⟨A2, n2, c2, rfl, hpo, hl2, hb⟩
        have HPO := Lib.hid (hpo.base (B' := w.heap.size) (Nat.le_trans HBW.out.size hbx.size))
        have HBW2 := Lib.hid (stepB (stepB HBW.out hbx) hb)
        have HO2 := Lib.hid ((HO.out.later hbx).later hb)
        clear hpo hl2 hb hbx HO HBW x0 x1 x2 x3 x4 x5 x6 i5
        have hby : Below w2.heap.size w2 (w2.alloc (.cells #[.int .u8 wh, .int .i64 t, .int .i64 cl, .int .i64 er, .bool fo, .string va, .slice A2 n2 c2] 40)) := (Below.refl _ _).alloc (Nat.le_refl _) _
        have HX3 : Hid (RSl evc 7 (w2.alloc (.cells #[.int .u8 wh, .int .i64 t, .int .i64 cl, .int .i64 er, .bool fo, .string va, .slice A2 n2 c2] 40)) (some ⟨w2.heap.size, 0, none⟩) 1 [((wh, t, cl, er, fo, va, ps), (A2, n2, c2))]) := Blk.rsl (x := ((wh, t, cl, er, fo, va, ps), (A2, n2, c2))) (Blk.new w2 _ 40)
        have HO3 := Lib.hid (HO2.out.later hby)
        have HP3 := Lib.hid (HPO.out.later hby)
        have HB3 := Lib.hid (stepB HBW2.out hby)
        clear hby
        obtain ⟨Av, cv, hv, _, _⟩ := HO3.out.row.sl
        subst hv
        go_wp2_with (first
          | (at_builtin; refine append_row1 elemEv rfl (.tmp 16) (.tmp 19) rfl w.heap.size (.slice Av Rs'.length cv) Rs'.length Rs' rfl HO3.out.row w2.heap.size 1 ((wh, t, cl, er, fo, va, ps), (A2, n2, c2)) rfl HX3.out (by omega) (by decide) HB3.out.size ?_; intro A4 c4 w4 ho4 hg4 hn4)
          | fail)
        intro hl4
        have HO4 := Lib.hid (HO3.out.more hg4 HP3.out ho4)
        have HB4 : Hid (Below w.heap.size w w4) := HB3.out.grown hg4 HB3.out.size (fun j e => (HO3.out.lt j e).1)
        clear ho4 hg4 hn4 hl4 HX3 HO3 HP3 HB3 HO2 HPO HBW2
        go_wp2
        go_roundw
        case rel => exact ⟨k + 1, _, Rs' ++ [((wh, t, cl, er, fo, va, ps), (A2, n2, c2))], by omega, by go_num, rfl, by rw [List.length_append]; exact HO4.out, by rw [List.map_append, HMR.out, HKE.out]; rfl, by simp; omega, HB4.out⟩
        case measure => simp [intOf]; omega
    · obtain rfl : k = n := by omega
      have d1 : decide ((k : Int) < (k : Int)) = false := decide_eq_false (by omega)
      have HME : Hid (Rs'.map Prod.fst = bareL (Rs.map Prod.fst)) := by
        show _ = _
        rw [HMR.out, List.take_of_length_le (by rw [List.length_map, HLN.out]; exact Nat.le_refl _)]
      obtain ⟨Av, cv, hv, _, _⟩ := HO.out.row.sl
      subst hv
      go_wp2
      go_ret
      exact ⟨Av, cv, _, Rs', rfl, HO.out, HME.out, HBW.out⟩
set_option maxRecDepth 100000 in
set_option maxHeartbeats 4000000 in
theorem events_any (B p : Nat) (tasks : Int) (v : Value) (Rs : List RE) (w : World) (h : RcAt w B p tasks v Rs) (hl : Rs.length ≤ 100000) (hp : ∀ r ∈ Rs, r.2.2.1 ≤ 100000) : Calls Try.prog 15 #[.pointer (some ⟨p, 0, none⟩)] w (OwdEnd (Rs.map Prod.fst) w) := by
  obtain ⟨A, c, rfl, _, _⟩ := h.row.row.sl
  have HO := Lib.hid (owned36 A Rs.length c Rs w h.row.evs hl hp)
  have c7 := h.blk.cell 7
  have e7 : (recc tasks (Rs.map Prod.fst) (.slice A Rs.length c)).toArray[7]? = some (.slice A Rs.length c) := rfl
  rw [e7] at c7
  clear h e7
  go_enter Try.func15, Try.ntmps15
  go_wp2_with fail
  refine HO.out.mono ?_
  rintro e w1 ⟨A1, c1, n1, Rs1, rfl, h1, h2, h3⟩
  have HH : Hid (OwdEnd (Rs.map Prod.fst) w (.returned (.slice A1 n1 c1)) w1) := ⟨A1, c1, n1, Rs1, rfl, h1, h2, h3⟩
  clear h1 h2 h3
  go_wp2
  go_ret
  exact HH.out
set_option maxRecDepth 100000 in
set_option maxHeartbeats 4000000 in
theorem bare_any (A : Option Addr) (n c : Nat) (Rs : List RE) (w : World) (h : EvS w A n Rs) (hn : n ≤ 100000) (hp : ∀ r ∈ Rs, r.2.2.1 ≤ 100000) : Calls Try.prog 29 #[.slice A n c] w (OwdEnd (bareL (Rs.map Prod.fst)) w) := by
  have HO := Lib.hid (owned48 A n c Rs w h hn hp)
  clear h
  go_enter Try.func29, Try.ntmps29
  go_wp2_with fail
  refine HO.out.mono ?_
  rintro e w1 ⟨A1, c1, n1, Rs1, rfl, h1, h2, h3⟩
  have HH : Hid (OwdEnd (bareL (Rs.map Prod.fst)) w (.returned (.slice A1 n1 c1)) w1) := ⟨A1, c1, n1, Rs1, rfl, h1, h2, h3⟩
  clear h1 h2 h3
  go_wp2
  go_ret
  exact HH.out
end Go.Proofs.Ytgbcncfgpdlmiaa
