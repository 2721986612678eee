/-
The view of any numbers, whether any view sees any writer, the least one that it does not see, whether two are the same, and a copy, are the words own; what is handed in stays, and what is told may be written over.
-/
import Derived.Test.YthicofdbcldpaaaL
import Derived.Test.YthicofdbcldpaaaJ
import Derived.Test.YthicofdbcldpaaaQ
namespace Go.Proofs.Ythicofdbcldpaaa.viewTells
open Go.ChangeShapes Go.WideShapes Go.ChangeAt Go.RowKit Go.Shelf Go.Sort Go.Lib
set_option linter.unusedVariables false
set_option linter.unusedSimpArgs false

theorem own : ownKnob Try.prog.godebug = none := by kernel_rfl
theorem laidOut : laidOutB Try.prog = true := by kernel_rfl

theorem sl_later {W W' : World} {A : Option Addr} {n c : Nat} {xs : List Int} (h : Sl W.heap.size W A n c xs) (hb : Below W.heap.size W W') : Sl W'.heap.size W' A n c xs := ⟨h.ints.later hb, h.le, h.nil⟩
theorem _root_.Go.Proofs.Ythicofdbcldpaaa.Sl.later {W W' : World} {A : Option Addr} {n c : Nat} {xs : List Int} (h : Sl W.heap.size W A n c xs) (hb : Below W.heap.size W W') : Sl W'.heap.size W' A n c xs := sl_later h hb
theorem _root_.Go.Proofs.Ythicofdbcldpaaa.OwnL.later {W W' : World} {B n : Nat} {v : Value} {xs : List Int} (h : OwnL W B v n xs) (hb : Below W.heap.size W W') : OwnL W' B v n xs :=
  World.ownsRow.kept h (row := none) ⟨hb.os, hb.tape, hb.output, hb.size, fun k hk _ => hb.block k hk⟩ (by cases v.ownBlock <;> simp)
theorem grown_trans {a b c : World} {g : Option Nat} (h : a.grownBy b g) (k : b.grownBy c g) : a.grownBy c g :=
  ⟨k.os.trans h.os, k.tape.trans h.tape, k.output.trans h.output, Nat.le_trans h.size k.size, fun i hi hg => (k.block i (Nat.lt_of_lt_of_le hi h.size) hg).trans (h.block i hi hg)⟩
theorem grown_set (W : World) (g j : Nat) (u : Value) : W.grownBy (W.setCell ⟨g, j, none⟩ u) (some g) :=
  ⟨rfl, rfl, rfl, by simp [World.setCell], fun k hk hkr => Below.heap_setCell W ⟨g, j, none⟩ u k (fun e => hkr (by rw [e]))⟩
theorem blk_grown {W W' : World} {B : Nat} {c : Array Value} {t : TypeId} {r : Option Nat} (h : Blk W B c t) (hg : W.grownBy W' r) (hr : some B ≠ r) : Blk W' B c t := (hg.block B h.lt hr).trans h
theorem own_store {W : World} {B g cap j : Nat} {ys : List Int} (h : Own W B g cap ys) (y : Int) : Own (W.setCell ⟨g, j, none⟩ (.int .i64 y)) B g cap (ys.set j y) := by
  have := World.ownsRow.stored h j (.int .i64 y)
  unfold Own
  rw [List.length_set, List.map_set]
  exact this.1
abbrev C3 (W : World) (B : Nat) (o h : Int) (A : Option Addr) (n c : Nat) : Prop := W.cell? ⟨B, 0, none⟩ = some (.int .i64 o) ∧ W.cell? ⟨B, 1, none⟩ = some (.int .i64 h) ∧ W.cell? ⟨B, 2, none⟩ = some (.slice A n c)
theorem c3_of {W : World} {B : Nat} {o h : Int} {A : Option Addr} {n c : Nat} {t : TypeId} (hB : Blk W B #[.int .i64 o, .int .i64 h, .slice A n c] t) : C3 W B o h A n c := ⟨hB.cell 0, hB.cell 1, hB.cell 2⟩
abbrev ST (w0 : World) (B1 B2 B3 B4 : Nat) (o1 h1 : Int) (A1 : Option Addr) (n1 c1 : Nat) (o2 h2 : Int) (A2 : Option Addr) (n2 c2 : Nat) (o3 h3 : Int) (A3 : Option Addr) (n3 c3 : Nat) (o4 h4 : Int) (A4 : Option Addr) (n4 c4 : Nat) (W : World) : Prop := Below w0.heap.size w0 W ∧ C3 W B1 o1 h1 A1 n1 c1 ∧ C3 W B2 o2 h2 A2 n2 c2 ∧ C3 W B3 o3 h3 A3 n3 c3 ∧ C3 W B4 o4 h4 A4 n4 c4
theorem st_later {w0 : World} {B1 B2 B3 B4 : Nat} {o1 h1 : Int} {A1 : Option Addr} {n1 c1 : Nat} {o2 h2 : Int} {A2 : Option Addr} {n2 c2 : Nat} {o3 h3 : Int} {A3 : Option Addr} {n3 c3 : Nat} {o4 h4 : Int} {A4 : Option Addr} {n4 c4 : Nat} {W : World} {t1 t2 t3 t4 : TypeId} (k1 : Blk w0 B1 #[.int .i64 o1, .int .i64 h1, .slice A1 n1 c1] t1) (k2 : Blk w0 B2 #[.int .i64 o2, .int .i64 h2, .slice A2 n2 c2] t2) (k3 : Blk w0 B3 #[.int .i64 o3, .int .i64 h3, .slice A3 n3 c3] t3) (k4 : Blk w0 B4 #[.int .i64 o4, .int .i64 h4, .slice A4 n4 c4] t4)
    (h : Below w0.heap.size w0 W) : ST w0 B1 B2 B3 B4 o1 h1 A1 n1 c1 o2 h2 A2 n2 c2 o3 h3 A3 n3 c3 o4 h4 A4 n4 c4 W := ⟨h, c3_of (k1.later h), c3_of (k2.later h), c3_of (k3.later h), c3_of (k4.later h)⟩
set_option maxRecDepth 100000 in
set_option maxHeartbeats 20000000 in
theorem walk_in (own high : Int) (A : Option Addr) (n c : Nat) (xs : List Int) (vo vh : Int) (VA : Option Addr) (vn vc : Nat) (vs : List Int) (oo oh : Int) (OA : Option Addr) (on oc : Nat) (os : List Int) (x : Int) (w : World)
    (hs : Sl w.heap.size w A n c xs) (hv : Sl w.heap.size w VA vn vc vs) (ho : Sl w.heap.size w OA on oc os) (hm : n ≤ maxLen) (hvm : vn ≤ maxLen) (hom : on ≤ maxLen) (hh : i64 high) (hvh : i64 vh) :
    Calls Try.prog 4 #[.int .i64 own, .int .i64 high, .slice A n c, .agg #[.int .i64 vo, .int .i64 vh, .slice VA vn vc], .agg #[.int .i64 oo, .int .i64 oh, .slice OA on oc], .int .i64 x] w fun e w' => e = .returned (.bool true) ∧ Below w.heap.size w w' := by
  unfold maxLen at hm hvm hom
  unfold i64 at hh hvh
  have V0 := Lib.hid hs
  have Vv := Lib.hid hv
  have Vo := Lib.hid ho
  clear hs hv ho
  have hb : Below w.heap.size w (w.alloc (.cells #[.int .i64 vo, .int .i64 vh, .slice VA vn vc] 25)) := (Below.refl _ _).alloc (Nat.le_refl _) _
  replace V0 := Lib.hid (V0.out.later hb)
  replace Vv := Lib.hid (Vv.out.later hb)
  replace Vo := Lib.hid (Vo.out.later hb)
  have H1 : Hid (Below w.heap.size w (w.alloc (.cells #[.int .i64 vo, .int .i64 vh, .slice VA vn vc] 25))) := hb
  clear hb
  have Kv : Hid (Blk (w.alloc (.cells #[.int .i64 vo, .int .i64 vh, .slice VA vn vc] 25)) w.heap.size #[.int .i64 vo, .int .i64 vh, .slice VA vn vc] 25) := Blk.new w _ _
  have Kv_0 : _ = some (Value.int .i64 vo) := Kv.out.cell 0
  have Kv_1 : _ = some (Value.int .i64 vh) := Kv.out.cell 1
  have Kv_2 : _ = some (Value.slice VA vn vc) := Kv.out.cell 2
  have hb : Below (w.alloc (.cells #[.int .i64 vo, .int .i64 vh, .slice VA vn vc] 25)).heap.size (w.alloc (.cells #[.int .i64 vo, .int .i64 vh, .slice VA vn vc] 25)) ((w.alloc (.cells #[.int .i64 vo, .int .i64 vh, .slice VA vn vc] 25)).alloc (.cells #[.int .i64 oo, .int .i64 oh, .slice OA on oc] 25)) := (Below.refl _ _).alloc (Nat.le_refl _) _
  replace V0 := Lib.hid (V0.out.later hb)
  replace Vv := Lib.hid (Vv.out.later hb)
  replace Vo := Lib.hid (Vo.out.later hb)
  replace Kv := Lib.hid (Kv.out.later hb)
  replace Kv_0 : _ = some (Value.int .i64 vo) := Kv.out.cell 0
  replace Kv_1 : _ = some (Value.int .i64 vh) := Kv.out.cell 1
  replace Kv_2 : _ = some (Value.slice VA vn vc) := Kv.out.cell 2
  have H2 : Hid (Below w.heap.size w ((w.alloc (.cells #[.int .i64 vo, .int .i64 vh, .slice VA vn vc] 25)).alloc (.cells #[.int .i64 oo, .int .i64 oh, .slice OA on oc] 25))) := stepB H1.out hb
  clear hb H1
  have Ko : Hid (Blk ((w.alloc (.cells #[.int .i64 vo, .int .i64 vh, .slice VA vn vc] 25)).alloc (.cells #[.int .i64 oo, .int .i64 oh, .slice OA on oc] 25)) (w.heap.size + 1) #[.int .i64 oo, .int .i64 oh, .slice OA on oc] 25) := by have := Blk.new (w.alloc (.cells #[.int .i64 vo, .int .i64 vh, .slice VA vn vc] 25)) #[.int .i64 oo, .int .i64 oh, .slice OA on oc] 25; rw [World.size_alloc] at this; exact this
  have Ko_0 : _ = some (Value.int .i64 oo) := Ko.out.cell 0
  have Ko_1 : _ = some (Value.int .i64 oh) := Ko.out.cell 1
  have Ko_2 : _ = some (Value.slice OA on oc) := Ko.out.cell 2
  have z0 : w.heap.size < w.heap.size + 1 := by omega
  have z1 : ¬ w.heap.size = w.heap.size + 1 := by omega
  by_cases y1 : 300 < n
  · have d1 : decide (300 < n) = true := decide_eq_true y1
    have d1' : decide ((300 : Int) < (n : Int)) = true := decide_eq_true (by omega)
    go_enter Try.func4, Try.ntmps4
    go_wp2_with fail
    refine (awake_any _).mono ?_
    rintro e w3 ⟨rfl, hb⟩
    have H3 : Hid (Below w.heap.size w w3) := stepB H2.out hb
    clear hb H2
    go_wp2_with fail
    go_ret
    exact ⟨rfl, H3.out⟩
  have d1 : decide (300 < n) = false := decide_eq_false y1
  have d1' : decide ((300 : Int) < (n : Int)) = false := decide_eq_false (by omega)
  by_cases y2 : 300 < vn
  · have d2 : decide (300 < vn) = true := decide_eq_true y2
    have d2' : decide ((300 : Int) < (vn : Int)) = true := decide_eq_true (by omega)
    go_enter Try.func4, Try.ntmps4
    go_wp2_with fail
    refine (awake_any _).mono ?_
    rintro e w3 ⟨rfl, hb⟩
    have H3 : Hid (Below w.heap.size w w3) := stepB H2.out hb
    clear hb H2
    go_wp2_with fail
    go_ret
    exact ⟨rfl, H3.out⟩
  have d2 : decide (300 < vn) = false := decide_eq_false y2
  have d2' : decide ((300 : Int) < (vn : Int)) = false := decide_eq_false (by omega)
  by_cases y3 : 300 < on
  · have d3 : decide (300 < on) = true := decide_eq_true y3
    have d3' : decide ((300 : Int) < (on : Int)) = true := decide_eq_true (by omega)
    go_enter Try.func4, Try.ntmps4
    go_wp2_with fail
    refine (awake_any _).mono ?_
    rintro e w3 ⟨rfl, hb⟩
    have H3 : Hid (Below w.heap.size w w3) := stepB H2.out hb
    clear hb H2
    go_wp2_with fail
    go_ret
    exact ⟨rfl, H3.out⟩
  have d3 : decide (300 < on) = false := decide_eq_false y3
  have d3' : decide ((300 : Int) < (on : Int)) = false := decide_eq_false (by omega)
  obtain ⟨L, hL⟩ : ∃ L, refOf own high xs = L := ⟨_, rfl⟩
  have HL := Lib.hid hL
  have hLn : L.length ≤ n := by
    rw [← hL, ← V0.out.ints.1]
    have := refOf_len own high xs []
    show (xs.foldl _ []).length ≤ _
    simpa using this
  obtain ⟨b1, hb1⟩ : ∃ b, sees own high L x = b := ⟨_, rfl⟩
  obtain ⟨b2, hb2⟩ : ∃ b, sees vo vh vs x = b := ⟨_, rfl⟩
  obtain ⟨b3, hb3⟩ : ∃ b, sameV vo vh vs oo oh os = b := ⟨_, rfl⟩
  obtain ⟨l1, hl1⟩ : ∃ l, leastOf own high L = l := ⟨_, rfl⟩
  obtain ⟨l2, hl2⟩ : ∃ l, leastOf vo vh vs = l := ⟨_, rfl⟩
  have Hb1 := Lib.hid hb1
  have Hb2 := Lib.hid hb2
  have Hb3 := Lib.hid hb3
  have Hl1 := Lib.hid hl1
  have Hl2 := Lib.hid hl2
  have Hr1 : Hid (refLeast own high L = l1) := (least_ref own high L (first_bound hh.2).2).symm.trans hl1
  have Hr2 : Hid (refLeast vo vh vs = l2) := (least_ref vo vh vs (first_bound hvh.2).2).symm.trans hl2
  have e1 : (b1 != b1) = false := by simp
  have e2 : (b2 != b2) = false := by simp
  have e3 : (b3 != b3) = false := by simp
  have e4 : (l1 != l1) = false := by simp
  have e5 : (l2 != l2) = false := by simp
  clear hL hb1 hb2 hb3 hl1 hl2
  go_enter Try.func4, Try.ntmps4
  have b0 : Below ((w.alloc (.cells #[.int .i64 vo, .int .i64 vh, .slice VA vn vc] 25)).alloc (.cells #[.int .i64 oo, .int .i64 oh, .slice OA on oc] 25)).heap.size ((w.alloc (.cells #[.int .i64 vo, .int .i64 vh, .slice VA vn vc] 25)).alloc (.cells #[.int .i64 oo, .int .i64 oh, .slice OA on oc] 25)) (((w.alloc (.cells #[.int .i64 vo, .int .i64 vh, .slice VA vn vc] 25)).alloc (.cells #[.int .i64 oo, .int .i64 oh, .slice OA on oc] 25)).alloc (.cells #[] 3)) := (Below.refl _ _).alloc (Nat.le_refl _) _
  have S0 := Lib.hid (V0.out.later b0)
  have O0 : Hid (OwnL (((w.alloc (.cells #[.int .i64 vo, .int .i64 vh, .slice VA vn vc] 25)).alloc (.cells #[.int .i64 oo, .int .i64 oh, .slice OA on oc] 25)).alloc (.cells #[] 3)) w.heap.size (.slice (some ⟨w.heap.size + 1 + 1, 0, none⟩) 0 0) 0 []) := by
    have := World.ownsRow_lit (base := w.heap.size) (e := 3) (size := 1) ((w.alloc (.cells #[.int .i64 vo, .int .i64 vh, .slice VA vn vc] 25)).alloc (.cells #[.int .i64 oo, .int .i64 oh, .slice OA on oc] 25)) #[] 0 (by simp; omega) (by omega) rfl
    simp only [World.size_alloc] at this
    exact this
  have B0 := Lib.hid b0
  clear b0
  go_wp2_with (at_builtin; refine wpList_append_ints rfl (.tmp 39) (.tmp 40) rfl w.heap.size _ 0 [] rfl O0.out A _ _ xs rfl _ S0.out (by omega) (by simp; omega) ?_)
  intro v1 w1 hO1 hg1
  try simp only [Nat.zero_add, List.nil_append] at hO1
  have hb : Below ((w.alloc (.cells #[.int .i64 vo, .int .i64 vh, .slice VA vn vc] 25)).alloc (.cells #[.int .i64 oo, .int .i64 oh, .slice OA on oc] 25)).heap.size ((w.alloc (.cells #[.int .i64 vo, .int .i64 vh, .slice VA vn vc] 25)).alloc (.cells #[.int .i64 oo, .int .i64 oh, .slice OA on oc] 25)) w1 := B0.out.grown hg1 (by simp) (fun j e => by simp [Value.ownBlock] at e; simp; omega)
  obtain ⟨KA, kc, rfl, hSk⟩ := own_sl hO1
  have Vk := Lib.hid hSk
  clear hSk hO1 hg1 B0 O0 S0
  replace V0 := Lib.hid (V0.out.later hb)
  replace Vv := Lib.hid (Vv.out.later hb)
  replace Vo := Lib.hid (Vo.out.later hb)
  replace Kv := Lib.hid (Kv.out.later hb)
  replace Kv_0 : _ = some (Value.int .i64 vo) := Kv.out.cell 0
  replace Kv_1 : _ = some (Value.int .i64 vh) := Kv.out.cell 1
  replace Kv_2 : _ = some (Value.slice VA vn vc) := Kv.out.cell 2
  replace Ko := Lib.hid (Ko.out.later hb)
  replace Ko_0 : _ = some (Value.int .i64 oo) := Ko.out.cell 0
  replace Ko_1 : _ = some (Value.int .i64 oh) := Ko.out.cell 1
  replace Ko_2 : _ = some (Value.slice OA on oc) := Ko.out.cell 2
  have H3 : Hid (Below w.heap.size w w1) := stepB H2.out hb
  clear hb H2
  have CO : Hid (Calls Try.prog 11 #[.int .i64 own, .int .i64 high, .slice KA n kc] w1 (ROfEnd own high L w1)) := by have := rOf_any own high KA n kc xs w1 Vk.out.ints (by omega); rw [HL.out] at this; exact this
  go_wp2_with fail
  refine (CO.out).mono ?_
  rintro e w4 ⟨WA, wm, wcap, rfl, hS, hb⟩
  obtain rfl : L.length = wm := hS.ints.1
  have Vw := Lib.hid hS
  clear hS CO
  replace V0 := Lib.hid (V0.out.later hb)
  replace Vv := Lib.hid (Vv.out.later hb)
  replace Vo := Lib.hid (Vo.out.later hb)
  replace Kv := Lib.hid (Kv.out.later hb)
  replace Kv_0 : _ = some (Value.int .i64 vo) := Kv.out.cell 0
  replace Kv_1 : _ = some (Value.int .i64 vh) := Kv.out.cell 1
  replace Kv_2 : _ = some (Value.slice VA vn vc) := Kv.out.cell 2
  replace Ko := Lib.hid (Ko.out.later hb)
  replace Ko_0 : _ = some (Value.int .i64 oo) := Ko.out.cell 0
  replace Ko_1 : _ = some (Value.int .i64 oh) := Ko.out.cell 1
  replace Ko_2 : _ = some (Value.slice OA on oc) := Ko.out.cell 2
  replace Vk := Lib.hid (Vk.out.later hb)
  have H4 : Hid (Below w.heap.size w w4) := stepB H3.out hb
  clear hb H3
  have hb : Below w4.heap.size w4 (w4.alloc (.cells #[.int .i64 own, .int .i64 high, .slice WA L.length wcap] 31)) := (Below.refl _ _).alloc (Nat.le_refl _) _
  replace V0 := Lib.hid (V0.out.later hb)
  replace Vv := Lib.hid (Vv.out.later hb)
  replace Vo := Lib.hid (Vo.out.later hb)
  replace Kv := Lib.hid (Kv.out.later hb)
  replace Kv_0 : _ = some (Value.int .i64 vo) := Kv.out.cell 0
  replace Kv_1 : _ = some (Value.int .i64 vh) := Kv.out.cell 1
  replace Kv_2 : _ = some (Value.slice VA vn vc) := Kv.out.cell 2
  replace Ko := Lib.hid (Ko.out.later hb)
  replace Ko_0 : _ = some (Value.int .i64 oo) := Ko.out.cell 0
  replace Ko_1 : _ = some (Value.int .i64 oh) := Ko.out.cell 1
  replace Ko_2 : _ = some (Value.slice OA on oc) := Ko.out.cell 2
  replace Vk := Lib.hid (Vk.out.later hb)
  replace Vw := Lib.hid (Vw.out.later hb)
  have H5 : Hid (Below w.heap.size w (w4.alloc (.cells #[.int .i64 own, .int .i64 high, .slice WA L.length wcap] 31))) := stepB H4.out hb
  clear hb H4
  have Kw : Hid (Blk (w4.alloc (.cells #[.int .i64 own, .int .i64 high, .slice WA L.length wcap] 31)) w4.heap.size #[.int .i64 own, .int .i64 high, .slice WA L.length wcap] 31) := Blk.new w4 _ _
  have Kw_0 : _ = some (Value.int .i64 own) := Kw.out.cell 0
  have Kw_1 : _ = some (Value.int .i64 high) := Kw.out.cell 1
  have Kw_2 : _ = some (Value.slice WA L.length wcap) := Kw.out.cell 2
  go_wp2_with fail
  have HW0 : Hid (Below w.heap.size w (w4.alloc (.cells #[.int .i64 own, .int .i64 high, .slice WA L.length wcap] 31))) := H5.out
  go_loopw [15] (fun i wr => ∃ k : Nat, k ≤ 2 ∧ i = .int .i64 k ∧ Below (w4.alloc (.cells #[.int .i64 own, .int .i64 high, .slice WA L.length wcap] 31)).heap.size (w4.alloc (.cells #[.int .i64 own, .int .i64 high, .slice WA L.length wcap] 31)) wr) (fun i _ => 2 - (intOf i).toNat)
  case atStart => exact ⟨0, by omega, rfl, Below.refl _ _⟩
  case round =>
    obtain ⟨k, hk, rfl, hb⟩ := hrel
    obtain ⟨wo, rfl⟩ : ∃ wo : World, wo = wr := ⟨_, rfl⟩
    have HBo := Lib.hid hb
    replace V0 := Lib.hid (V0.out.later hb)
    replace Vv := Lib.hid (Vv.out.later hb)
    replace Vo := Lib.hid (Vo.out.later hb)
    replace Kv := Lib.hid (Kv.out.later hb)
    replace Kv_0 : _ = some (Value.int .i64 vo) := Kv.out.cell 0
    replace Kv_1 : _ = some (Value.int .i64 vh) := Kv.out.cell 1
    replace Kv_2 : _ = some (Value.slice VA vn vc) := Kv.out.cell 2
    replace Ko := Lib.hid (Ko.out.later hb)
    replace Ko_0 : _ = some (Value.int .i64 oo) := Ko.out.cell 0
    replace Ko_1 : _ = some (Value.int .i64 oh) := Ko.out.cell 1
    replace Ko_2 : _ = some (Value.slice OA on oc) := Ko.out.cell 2
    replace Vk := Lib.hid (Vk.out.later hb)
    replace Vw := Lib.hid (Vw.out.later hb)
    replace Kw := Lib.hid (Kw.out.later hb)
    replace Kw_0 : _ = some (Value.int .i64 own) := Kw.out.cell 0
    replace Kw_1 : _ = some (Value.int .i64 high) := Kw.out.cell 1
    replace Kw_2 : _ = some (Value.slice WA L.length wcap) := Kw.out.cell 2
    have H5 : Hid (Below w.heap.size w wo) := stepB H5.out hb
    clear hb H5
    by_cases hlt : k < 2
    case pos =>
      have hk1 : (k : Int) < 2 := by omega
      have CO : Hid (Calls Try.prog 12 #[.int .i64 own, .int .i64 high, .slice A n c] wo (OfEnd own high L wo)) := by have := Of_any own high A n c xs wo V0.out.ints (by omega); rw [HL.out] at this; exact this
      go_wp2_with fail
      refine (CO.out).mono ?_
      rintro e w11 ⟨ga, capa, rfl, hO, hb⟩
      have Oa := Lib.hid hO
      have hga0 := hO.lt.1
      have hga := hO.lt.2
      clear hO CO
      replace V0 := Lib.hid (V0.out.later hb)
      replace Vv := Lib.hid (Vv.out.later hb)
      replace Vo := Lib.hid (Vo.out.later hb)
      replace Kv := Lib.hid (Kv.out.later hb)
      replace Kv_0 : _ = some (Value.int .i64 vo) := Kv.out.cell 0
      replace Kv_1 : _ = some (Value.int .i64 vh) := Kv.out.cell 1
      replace Kv_2 : _ = some (Value.slice VA vn vc) := Kv.out.cell 2
      replace Ko := Lib.hid (Ko.out.later hb)
      replace Ko_0 : _ = some (Value.int .i64 oo) := Ko.out.cell 0
      replace Ko_1 : _ = some (Value.int .i64 oh) := Ko.out.cell 1
      replace Ko_2 : _ = some (Value.slice OA on oc) := Ko.out.cell 2
      replace Vk := Lib.hid (Vk.out.later hb)
      replace Vw := Lib.hid (Vw.out.later hb)
      replace Kw := Lib.hid (Kw.out.later hb)
      replace Kw_0 : _ = some (Value.int .i64 own) := Kw.out.cell 0
      replace Kw_1 : _ = some (Value.int .i64 high) := Kw.out.cell 1
      replace Kw_2 : _ = some (Value.slice WA L.length wcap) := Kw.out.cell 2
      have H11 : Hid (Below wo.heap.size wo w11) := hb
      clear hb
      have hb : Below w11.heap.size w11 (w11.alloc (.cells #[.int .i64 own, .int .i64 high, .slice (some ⟨ga, 0, none⟩) L.length capa] 25)) := (Below.refl _ _).alloc (Nat.le_refl _) _
      replace V0 := Lib.hid (V0.out.later hb)
      replace Vv := Lib.hid (Vv.out.later hb)
      replace Vo := Lib.hid (Vo.out.later hb)
      replace Kv := Lib.hid (Kv.out.later hb)
      replace Kv_0 : _ = some (Value.int .i64 vo) := Kv.out.cell 0
      replace Kv_1 : _ = some (Value.int .i64 vh) := Kv.out.cell 1
      replace Kv_2 : _ = some (Value.slice VA vn vc) := Kv.out.cell 2
      replace Ko := Lib.hid (Ko.out.later hb)
      replace Ko_0 : _ = some (Value.int .i64 oo) := Ko.out.cell 0
      replace Ko_1 : _ = some (Value.int .i64 oh) := Ko.out.cell 1
      replace Ko_2 : _ = some (Value.slice OA on oc) := Ko.out.cell 2
      replace Vk := Lib.hid (Vk.out.later hb)
      replace Vw := Lib.hid (Vw.out.later hb)
      replace Kw := Lib.hid (Kw.out.later hb)
      replace Kw_0 : _ = some (Value.int .i64 own) := Kw.out.cell 0
      replace Kw_1 : _ = some (Value.int .i64 high) := Kw.out.cell 1
      replace Kw_2 : _ = some (Value.slice WA L.length wcap) := Kw.out.cell 2
      replace Oa := Lib.hid (Oa.out.later hb)
      have H12 : Hid (Below wo.heap.size wo (w11.alloc (.cells #[.int .i64 own, .int .i64 high, .slice (some ⟨ga, 0, none⟩) L.length capa] 25))) := stepB H11.out hb
      clear hb H11
      have Ka : Hid (Blk (w11.alloc (.cells #[.int .i64 own, .int .i64 high, .slice (some ⟨ga, 0, none⟩) L.length capa] 25)) w11.heap.size #[.int .i64 own, .int .i64 high, .slice (some ⟨ga, 0, none⟩) L.length capa] 25) := Blk.new w11 _ _
      have Ka_0 : _ = some (Value.int .i64 own) := Ka.out.cell 0
      have Ka_1 : _ = some (Value.int .i64 high) := Ka.out.cell 1
      have Ka_2 : _ = some (Value.slice (some ⟨ga, 0, none⟩) L.length capa) := Ka.out.cell 2
      go_wp2_with fail
      refine (Copy_any vo vh VA vn vc vs _ Vv.out (by omega)).mono ?_
      rintro e w13 ⟨CA, cc, rfl, hOc, hb⟩
      have Oc : Hid (OwnL _ (w11.heap.size + 1) (.slice CA vn cc) vn vs) := World.ownsRow.base_mono hOc (by simp)
      have hclt := fun g e => (World.ownsRow.lt hOc g e).2
      have hcge := fun g e => (World.ownsRow.lt Oc.out g e).1
      have hsz7 := hb.size
      simp only [World.size_alloc] at hsz7
      clear hOc
      replace V0 := Lib.hid (V0.out.later hb)
      replace Vv := Lib.hid (Vv.out.later hb)
      replace Vo := Lib.hid (Vo.out.later hb)
      replace Kv := Lib.hid (Kv.out.later hb)
      replace Kv_0 : _ = some (Value.int .i64 vo) := Kv.out.cell 0
      replace Kv_1 : _ = some (Value.int .i64 vh) := Kv.out.cell 1
      replace Kv_2 : _ = some (Value.slice VA vn vc) := Kv.out.cell 2
      replace Ko := Lib.hid (Ko.out.later hb)
      replace Ko_0 : _ = some (Value.int .i64 oo) := Ko.out.cell 0
      replace Ko_1 : _ = some (Value.int .i64 oh) := Ko.out.cell 1
      replace Ko_2 : _ = some (Value.slice OA on oc) := Ko.out.cell 2
      replace Vk := Lib.hid (Vk.out.later hb)
      replace Vw := Lib.hid (Vw.out.later hb)
      replace Kw := Lib.hid (Kw.out.later hb)
      replace Kw_0 : _ = some (Value.int .i64 own) := Kw.out.cell 0
      replace Kw_1 : _ = some (Value.int .i64 high) := Kw.out.cell 1
      replace Kw_2 : _ = some (Value.slice WA L.length wcap) := Kw.out.cell 2
      replace Oa := Lib.hid (Oa.out.later hb)
      replace Ka := Lib.hid (Ka.out.later hb)
      replace Ka_0 : _ = some (Value.int .i64 own) := Ka.out.cell 0
      replace Ka_1 : _ = some (Value.int .i64 high) := Ka.out.cell 1
      replace Ka_2 : _ = some (Value.slice (some ⟨ga, 0, none⟩) L.length capa) := Ka.out.cell 2
      have H13 : Hid (Below wo.heap.size wo w13) := stepB H12.out hb
      clear hb H12
      have hb : Below w13.heap.size w13 (w13.alloc (.cells #[.int .i64 vo, .int .i64 vh, .slice CA vn cc] 25)) := (Below.refl _ _).alloc (Nat.le_refl _) _
      replace V0 := Lib.hid (V0.out.later hb)
      replace Vv := Lib.hid (Vv.out.later hb)
      replace Vo := Lib.hid (Vo.out.later hb)
      replace Kv := Lib.hid (Kv.out.later hb)
      replace Kv_0 : _ = some (Value.int .i64 vo) := Kv.out.cell 0
      replace Kv_1 : _ = some (Value.int .i64 vh) := Kv.out.cell 1
      replace Kv_2 : _ = some (Value.slice VA vn vc) := Kv.out.cell 2
      replace Ko := Lib.hid (Ko.out.later hb)
      replace Ko_0 : _ = some (Value.int .i64 oo) := Ko.out.cell 0
      replace Ko_1 : _ = some (Value.int .i64 oh) := Ko.out.cell 1
      replace Ko_2 : _ = some (Value.slice OA on oc) := Ko.out.cell 2
      replace Vk := Lib.hid (Vk.out.later hb)
      replace Vw := Lib.hid (Vw.out.later hb)
      replace Kw := Lib.hid (Kw.out.later hb)
      replace Kw_0 : _ = some (Value.int .i64 own) := Kw.out.cell 0
      replace Kw_1 : _ = some (Value.int .i64 high) := Kw.out.cell 1
      replace Kw_2 : _ = some (Value.slice WA L.length wcap) := Kw.out.cell 2
      replace Oa := Lib.hid (Oa.out.later hb)
      replace Ka := Lib.hid (Ka.out.later hb)
      replace Ka_0 : _ = some (Value.int .i64 own) := Ka.out.cell 0
      replace Ka_1 : _ = some (Value.int .i64 high) := Ka.out.cell 1
      replace Ka_2 : _ = some (Value.slice (some ⟨ga, 0, none⟩) L.length capa) := Ka.out.cell 2
      replace Oc := Lib.hid (Oc.out.later hb)
      have H14 : Hid (Below wo.heap.size wo (w13.alloc (.cells #[.int .i64 vo, .int .i64 vh, .slice CA vn cc] 25))) := stepB H13.out hb
      clear hb H13
      have Kc : Hid (Blk (w13.alloc (.cells #[.int .i64 vo, .int .i64 vh, .slice CA vn cc] 25)) w13.heap.size #[.int .i64 vo, .int .i64 vh, .slice CA vn cc] 25) := Blk.new w13 _ _
      have Kc_0 : _ = some (Value.int .i64 vo) := Kc.out.cell 0
      have Kc_1 : _ = some (Value.int .i64 vh) := Kc.out.cell 1
      have Kc_2 : _ = some (Value.slice CA vn cc) := Kc.out.cell 2
      have Vc : Hid (Sl (w13.alloc (.cells #[.int .i64 vo, .int .i64 vh, .slice CA vn cc] 25)).heap.size (w13.alloc (.cells #[.int .i64 vo, .int .i64 vh, .slice CA vn cc] 25)) CA vn cc vs) := by
        obtain ⟨A2, c2, e, h⟩ := own_sl Oc.out
        cases e; exact h
      have C1 : Hid (∀ W, ST (w13.alloc (.cells #[.int .i64 vo, .int .i64 vh, .slice CA vn cc] 25)) w11.heap.size w4.heap.size w13.heap.size w.heap.size own high (some ⟨ga, 0, none⟩) L.length capa own high WA L.length wcap vo vh CA vn cc vo vh VA vn vc W → Calls Try.prog 14 #[.agg #[.int .i64 own, .int .i64 high, .slice (some ⟨ga, 0, none⟩) L.length capa], .agg #[.int .i64 own, .int .i64 high, .slice WA L.length wcap]] W fun e w' => e = .returned (.bool true) ∧ Below W.heap.size W w') := fun W h => by
        have := rSame_any own high own high (some ⟨ga, 0, none⟩) WA L.length L.length capa wcap L L W (Oa.out.ints.later h.1) (Vw.out.ints.later h.1) (by omega) (by omega)
        rw [same_yes] at this; exact this
      have C2 : Hid (∀ W, ST (w13.alloc (.cells #[.int .i64 vo, .int .i64 vh, .slice CA vn cc] 25)) w11.heap.size w4.heap.size w13.heap.size w.heap.size own high (some ⟨ga, 0, none⟩) L.length capa own high WA L.length wcap vo vh CA vn cc vo vh VA vn vc W → Calls Try.prog 14 #[.agg #[.int .i64 vo, .int .i64 vh, .slice CA vn cc], .agg #[.int .i64 vo, .int .i64 vh, .slice VA vn vc]] W fun e w' => e = .returned (.bool true) ∧ Below W.heap.size W w') := fun W h => by
        have := rSame_any vo vh vo vh CA VA vn vn cc vc vs vs W (Vc.out.ints.later h.1) (Vv.out.ints.later h.1) (by omega) (by omega)
        rw [same_yes] at this; exact this
      have C3 : Hid (∀ W, ST (w13.alloc (.cells #[.int .i64 vo, .int .i64 vh, .slice CA vn cc] 25)) w11.heap.size w4.heap.size w13.heap.size w.heap.size own high (some ⟨ga, 0, none⟩) L.length capa own high WA L.length wcap vo vh CA vn cc vo vh VA vn vc W → Calls Try.prog 9 #[.agg #[.int .i64 own, .int .i64 high, .slice (some ⟨ga, 0, none⟩) L.length capa], .int .i64 x] W fun e w' => e = .returned (.bool b1) ∧ Below W.heap.size W w') := fun W h => by
        have := Sees_any own high (some ⟨ga, 0, none⟩) L.length capa L x W (Oa.out.ints.later h.1) (by omega)
        rw [Hb1.out] at this; exact this
      have C4 : Hid (∀ W, ST (w13.alloc (.cells #[.int .i64 vo, .int .i64 vh, .slice CA vn cc] 25)) w11.heap.size w4.heap.size w13.heap.size w.heap.size own high (some ⟨ga, 0, none⟩) L.length capa own high WA L.length wcap vo vh CA vn cc vo vh VA vn vc W → Calls Try.prog 15 #[.agg #[.int .i64 own, .int .i64 high, .slice WA L.length wcap], .int .i64 x] W fun e w' => e = .returned (.bool b1) ∧ Below W.heap.size W w') := fun W h => by
        have := rSees_any own high WA L.length wcap L x W (Vw.out.ints.later h.1) (by omega)
        rw [Hb1.out] at this; exact this
      have C5 : Hid (∀ W, ST (w13.alloc (.cells #[.int .i64 vo, .int .i64 vh, .slice CA vn cc] 25)) w11.heap.size w4.heap.size w13.heap.size w.heap.size own high (some ⟨ga, 0, none⟩) L.length capa own high WA L.length wcap vo vh CA vn cc vo vh VA vn vc W → Calls Try.prog 8 #[.agg #[.int .i64 own, .int .i64 high, .slice (some ⟨ga, 0, none⟩) L.length capa]] W fun e w' => e = .returned (.int .i64 l1) ∧ Below W.heap.size W w') := fun W h => by
        have := Least_any own high (some ⟨ga, 0, none⟩) L.length capa L W (Oa.out.ints.later h.1) (by omega) hh.2
        rw [Hl1.out] at this; exact this
      have C6 : Hid (∀ W, ST (w13.alloc (.cells #[.int .i64 vo, .int .i64 vh, .slice CA vn cc] 25)) w11.heap.size w4.heap.size w13.heap.size w.heap.size own high (some ⟨ga, 0, none⟩) L.length capa own high WA L.length wcap vo vh CA vn cc vo vh VA vn vc W → Calls Try.prog 16 #[.agg #[.int .i64 own, .int .i64 high, .slice WA L.length wcap]] W fun e w' => e = .returned (.int .i64 l1) ∧ Below W.heap.size W w') := fun W h => by
        have := rLeast_any own high WA L.length wcap L W (Vw.out.ints.later h.1) (by omega) hh.2
        rw [Hr1.out] at this; exact this
      have KS : Hid (∀ W W2, Below W.heap.size W W2 → ST (w13.alloc (.cells #[.int .i64 vo, .int .i64 vh, .slice CA vn cc] 25)) w11.heap.size w4.heap.size w13.heap.size w.heap.size own high (some ⟨ga, 0, none⟩) L.length capa own high WA L.length wcap vo vh CA vn cc vo vh VA vn vc W → ST (w13.alloc (.cells #[.int .i64 vo, .int .i64 vh, .slice CA vn cc] 25)) w11.heap.size w4.heap.size w13.heap.size w.heap.size own high (some ⟨ga, 0, none⟩) L.length capa own high WA L.length wcap vo vh CA vn cc vo vh VA vn vc W2) := fun W W2 h2 h1 => st_later Ka.out Kw.out Kc.out Kv.out (stepB h1.1 h2)
      have K0 : Hid (ST (w13.alloc (.cells #[.int .i64 vo, .int .i64 vh, .slice CA vn cc] 25)) w11.heap.size w4.heap.size w13.heap.size w.heap.size own high (some ⟨ga, 0, none⟩) L.length capa own high WA L.length wcap vo vh CA vn cc vo vh VA vn vc (w13.alloc (.cells #[.int .i64 vo, .int .i64 vh, .slice CA vn cc] 25)).drew) := st_later Ka.out Kw.out Kc.out Kv.out (Below.drew (Below.refl _ _))
      go_upto_region 10 with fail
      go_cut [81] (fun s81 wx => s81 = .bool false ∧ Below (w13.alloc (.cells #[.int .i64 vo, .int .i64 vh, .slice CA vn cc] 25)).heap.size (w13.alloc (.cells #[.int .i64 vo, .int .i64 vh, .slice CA vn cc] 25)) wx)
      case first =>
        go_region_held3 (ST (w13.alloc (.cells #[.int .i64 vo, .int .i64 vh, .slice CA vn cc] 25)) w11.heap.size w4.heap.size w13.heap.size w.heap.size own high (some ⟨ga, 0, none⟩) L.length capa own high WA L.length wcap vo vh CA vn cc vo vh VA vn vc) (first | assumption | exact K0.out | exact KS.out _ _ (by assumption) (by assumption) | exact KS.out _ _ (below_drewN (Below.refl _ _) _) (by assumption)) (first
          | (go_at_call_of 14 (Value.agg #[.int .i64 own, .int .i64 high, .slice (some ⟨ga, 0, none⟩) L.length capa]); refine (C1.out _ (by assumption)).mono ?_; rintro e wz ⟨rfl, hb⟩)
          | (go_at_call 14; refine (C2.out _ (by assumption)).mono ?_; rintro e wz ⟨rfl, hb⟩)
          | (go_at_call 9; refine (C3.out _ (by assumption)).mono ?_; rintro e wz ⟨rfl, hb⟩)
          | (go_at_call 15; refine (C4.out _ (by assumption)).mono ?_; rintro e wz ⟨rfl, hb⟩)
          | (go_at_call 8; refine (C5.out _ (by assumption)).mono ?_; rintro e wz ⟨rfl, hb⟩)
          | (go_at_call 16; refine (C6.out _ (by assumption)).mono ?_; rintro e wz ⟨rfl, hb⟩))
        all_goals (
          rename ST _ _ _ _ _ _ _ _ _ _ _ _ _ _ _ _ _ _ _ _ _ _ _ _ _ _ => hST
          have hz := Lib.hid hST.1
          clear hST
          go_wp2_with fail
          go_meet
          exact ⟨rfl, hz.out⟩)
      case rest =>
        obtain ⟨rfl, hb⟩ := hcut
        obtain ⟨w9, rfl⟩ : ∃ w9 : World, w9 = wc := ⟨_, rfl⟩
        clear C1 C2 C3 C4 C5 C6 KS K0 Vc
        replace V0 := Lib.hid (V0.out.later hb)
        replace Vv := Lib.hid (Vv.out.later hb)
        replace Vo := Lib.hid (Vo.out.later hb)
        replace Kv := Lib.hid (Kv.out.later hb)
        replace Kv_0 : _ = some (Value.int .i64 vo) := Kv.out.cell 0
        replace Kv_1 : _ = some (Value.int .i64 vh) := Kv.out.cell 1
        replace Kv_2 : _ = some (Value.slice VA vn vc) := Kv.out.cell 2
        replace Ko := Lib.hid (Ko.out.later hb)
        replace Ko_0 : _ = some (Value.int .i64 oo) := Ko.out.cell 0
        replace Ko_1 : _ = some (Value.int .i64 oh) := Ko.out.cell 1
        replace Ko_2 : _ = some (Value.slice OA on oc) := Ko.out.cell 2
        replace Vk := Lib.hid (Vk.out.later hb)
        replace Vw := Lib.hid (Vw.out.later hb)
        replace Kw := Lib.hid (Kw.out.later hb)
        replace Kw_0 : _ = some (Value.int .i64 own) := Kw.out.cell 0
        replace Kw_1 : _ = some (Value.int .i64 high) := Kw.out.cell 1
        replace Kw_2 : _ = some (Value.slice WA L.length wcap) := Kw.out.cell 2
        replace Oa := Lib.hid (Oa.out.later hb)
        replace Ka := Lib.hid (Ka.out.later hb)
        replace Ka_0 : _ = some (Value.int .i64 own) := Ka.out.cell 0
        replace Ka_1 : _ = some (Value.int .i64 high) := Ka.out.cell 1
        replace Ka_2 : _ = some (Value.slice (some ⟨ga, 0, none⟩) L.length capa) := Ka.out.cell 2
        replace Oc := Lib.hid (Oc.out.later hb)
        replace Kc := Lib.hid (Kc.out.later hb)
        replace Kc_0 : _ = some (Value.int .i64 vo) := Kc.out.cell 0
        replace Kc_1 : _ = some (Value.int .i64 vh) := Kc.out.cell 1
        replace Kc_2 : _ = some (Value.slice CA vn cc) := Kc.out.cell 2
        have H20 : Hid (Below wo.heap.size wo w9) := stepB H14.out hb
        clear hb H14
        clear V0 Vv Vo Vk Vw Kv Kv_0 Kv_1 Kv_2 Ko Ko_0 Ko_1 Ko_2 Kw Kw_0 Kw_1 Kw_2 Ka_0 Ka_1 Ka_2 Kc_0 Kc_1 Kc_2
        have hbc : ga < w11.heap.size := hga
        have hcc : ∀ g, Value.ownBlock (.slice CA vn cc) = some g → w11.heap.size < g ∧ g < w13.heap.size := fun g e => ⟨by have := hcge g e; omega, hclt g e⟩
        have Hcc := Lib.hid hcc
        have hac : w11.heap.size < w13.heap.size := by omega
        clear hcc hclt hcge
        generalize w11.heap.size = Ba at *
        generalize w13.heap.size = Bc at *
        go_wp2_with fail
        go_loopw [18] (fun i wr => ∃ j : Nat, j ≤ L.length ∧ i = .int .i64 j ∧ ∃ ys, ys.length = L.length ∧ Own wr wo.heap.size ga capa ys ∧ w9.grownBy wr (some ga)) (fun i _ => L.length - (intOf i).toNat)
        case atStart => exact ⟨0, by omega, rfl, L, rfl, Oa.out, World.grownBy.refl _ _⟩
        case round =>
          obtain ⟨j, hj, rfl, ys, hyl, hO, hg⟩ := hrel
          obtain ⟨wi, rfl⟩ : ∃ wi : World, wi = wr := ⟨_, rfl⟩
          have kc2 : wi.cell? ⟨Ba, 2, none⟩ = some (.slice (some ⟨ga, 0, none⟩) L.length capa) := (blk_grown Ka.out hg (by simp; omega)).cell 2
          have Hyl := Lib.hid hyl
          clear hyl
          by_cases hjl : j < L.length
          case pos =>
            have hx1 := index_run ga 0 L.length capa j (j : Int) rfl hjl
            simp only [Nat.zero_add] at hx1
            have q1 : wi.cell? ⟨ga, j, none⟩ = some (.int .i64 (ys.getD j 0)) := by
              have := (hO.ints).2 (by rw [Hyl.out]; omega)
              obtain ⟨g', off', e, _, hc'⟩ := this
              cases e
              have := hc' j (by rw [Hyl.out]; omega)
              rwa [Nat.zero_add] at this
            have q2 : wi.frozen? ⟨ga, j, none⟩ = false := World.ownsRow.frozenAt hO j
            have HO2 : Hid (Own (wi.setCell ⟨ga, j, none⟩ (.int .i64 77)) wo.heap.size ga capa (ys.set j 77)) := own_store hO 77
            have HG2 : Hid (w9.grownBy (wi.setCell ⟨ga, j, none⟩ (.int .i64 77)) (some ga)) := grown_trans hg (grown_set _ _ _ _)
            clear hO hg
            go_wp2
            go_roundw
            case rel => exact ⟨j + 1, by omega, by go_num, ys.set j 77, by rw [List.length_set]; exact Hyl.out, HO2.out, HG2.out⟩
            case measure => simp [intOf]; omega
          case neg =>
            have HO := Lib.hid hO
            have HG := Lib.hid hg
            have Kc2 := Lib.hid (blk_grown Kc.out hg (by simp; omega))
            have hne : Value.ownBlock (.slice CA vn cc) ≠ some ga := fun e => by have := Hcc.out ga e; omega
            have Oc2 : Hid (OwnL wi (Ba + 1) (.slice CA vn cc) vn vs) := World.ownsRow.kept Oc.out hg (.inr hne)
            clear hO hg hne
            go_wp2_with fail
            go_loopw [19] (fun i wr => ∃ j : Nat, j ≤ vn ∧ i = .int .i64 j ∧ ∃ ys, OwnL wr (Ba + 1) (.slice CA vn cc) vn ys ∧ wi.grownBy wr (Value.ownBlock (.slice CA vn cc))) (fun i _ => vn - (intOf i).toNat)
            case atStart => exact ⟨0, by omega, rfl, vs, Oc2.out, World.grownBy.refl _ _⟩
            case round =>
              obtain ⟨j, hj, rfl, ys, hO, hg⟩ := hrel
              obtain ⟨wj, rfl⟩ : ∃ wj : World, wj = wr := ⟨_, rfl⟩
              have kc2 : wj.cell? ⟨Bc, 2, none⟩ = some (.slice CA vn cc) := (blk_grown Kc2.out hg (fun e => by have := (Hcc.out Bc e.symm).2; omega)).cell 2
              by_cases hjl : j < vn
              case pos =>
                obtain ⟨gc, rfl⟩ : ∃ gc, CA = some ⟨gc, 0, none⟩ := by
                  rcases hO.2 with ⟨e, e2⟩ | ⟨g, cap, cur, e, _⟩
                  · omega
                  · cases e; exact ⟨g, rfl⟩
                have hyl : ys.length = vn := by simpa using hO.1
                have Hyl := Lib.hid hyl
                have hO' : Own wj (Ba + 1) gc cc ys := by unfold Own; rw [hyl]; exact hO
                have hx1 := index_run gc 0 vn cc j (j : Int) rfl hjl
                simp only [Nat.zero_add] at hx1
                have q1 : wj.cell? ⟨gc, j, none⟩ = some (.int .i64 (ys.getD j 0)) := by
                  obtain ⟨g', off', e, _, hc'⟩ := (hO'.ints).2 (by omega)
                  cases e
                  have := hc' j (by omega)
                  rwa [Nat.zero_add] at this
                have q2 : wj.frozen? ⟨gc, j, none⟩ = false := World.ownsRow.frozenAt hO' j
                have HO2 : Hid (OwnL (wj.setCell ⟨gc, j, none⟩ (.int .i64 77)) (Ba + 1) (.slice (some ⟨gc, 0, none⟩) vn cc) vn (ys.set j 77)) := by
                  have := own_store (j := j) hO' 77
                  unfold Own at this
                  rw [List.length_set, hyl] at this
                  exact this
                have HG2 : Hid (wi.grownBy (wj.setCell ⟨gc, j, none⟩ (.int .i64 77)) (some gc)) := grown_trans hg (grown_set _ _ _ _)
                clear hO hO' hg hyl
                go_wp2
                go_roundw
                case rel => exact ⟨j + 1, by omega, by go_num, ys.set j 77, HO2.out, HG2.out⟩
                case measure => simp [intOf]; omega
              case neg =>
                have hz : Below wo.heap.size wo wj := ((H20.out.grown HG.out H20.out.size (fun g e => by cases e; exact hga0))).grown hg (by have := HG.out.size; have := H20.out.size; omega) (fun g e => by have := Hcc.out g e; omega)
                have Hz := Lib.hid (stepB HBo.out hz)
                clear hO hg hz
                go_wp2_with fail
                go_roundw
                case rel => exact ⟨k + 1, by omega, by go_num, Hz.out⟩
                case measure => simp [intOf]; omega
    case neg =>
      have hk2 : ¬ (k : Int) < 2 := by omega
      have HWo : Hid (Below w.heap.size w wo) := stepB HW0.out HBo.out
      clear Kw Kw_0 Kw_1 Kw_2
      clear Vw 
      have y1 : w.heap.size < wo.heap.size := Kv.out.lt
      have y2 : w.heap.size + 1 < wo.heap.size := Ko.out.lt
      go_upto_region 20 with fail
      go_cut [20, 21] (fun s20 s21 wx => ∃ bx bz, s20 = .pointer (some ⟨bx, 0, none⟩) ∧ s21 = .pointer (some ⟨bz, 0, none⟩) ∧ Blk wx bx #[.int .i64 vo, .int .i64 vh, .slice VA vn vc] 31 ∧ Blk wx bz #[.int .i64 oo, .int .i64 oh, .slice OA on oc] 31 ∧ Below wo.heap.size wo wx)
      case first =>
        go_region
        all_goals go_wp2_with fail
        all_goals go_meet
        all_goals first
          | exact ⟨wo.heap.size, wo.heap.size + 1, rfl, rfl, Blk.alloc (Blk.new wo #[.int .i64 vo, .int .i64 vh, .slice VA vn vc] 31) _, (by have := Blk.new (wo.alloc (.cells #[.int .i64 vo, .int .i64 vh, .slice VA vn vc] 31)) #[.int .i64 oo, .int .i64 oh, .slice OA on oc] 31; simp only [World.size_alloc] at this; exact this), Below.drew (((Below.refl _ _).alloc (Nat.le_refl _) _).alloc (by simp) _)⟩
          | exact ⟨wo.heap.size + 1, wo.heap.size, rfl, rfl, (by have := Blk.new (wo.alloc (.cells #[.int .i64 oo, .int .i64 oh, .slice OA on oc] 31)) #[.int .i64 vo, .int .i64 vh, .slice VA vn vc] 31; simp only [World.size_alloc] at this; exact this), Blk.alloc (Blk.new wo #[.int .i64 oo, .int .i64 oh, .slice OA on oc] 31) _, Below.drew (((Below.refl _ _).alloc (Nat.le_refl _) _).alloc (by simp) _)⟩
      case rest =>
        obtain ⟨bx, bz, rfl, rfl, hx, hz, hb⟩ := hcut
        obtain ⟨wp, rfl⟩ : ∃ wp : World, wp = wc := ⟨_, rfl⟩
        clear y1 y2
        replace V0 := Lib.hid (V0.out.later hb)
        replace Vv := Lib.hid (Vv.out.later hb)
        replace Vo := Lib.hid (Vo.out.later hb)
        replace Kv := Lib.hid (Kv.out.later hb)
        replace Kv_0 : _ = some (Value.int .i64 vo) := Kv.out.cell 0
        replace Kv_1 : _ = some (Value.int .i64 vh) := Kv.out.cell 1
        replace Kv_2 : _ = some (Value.slice VA vn vc) := Kv.out.cell 2
        replace Ko := Lib.hid (Ko.out.later hb)
        replace Ko_0 : _ = some (Value.int .i64 oo) := Ko.out.cell 0
        replace Ko_1 : _ = some (Value.int .i64 oh) := Ko.out.cell 1
        replace Ko_2 : _ = some (Value.slice OA on oc) := Ko.out.cell 2
        replace Vk := Lib.hid (Vk.out.later hb)
        have H31 : Hid (Below wo.heap.size wo wp) := hb
        clear hb
        have Kx := Lib.hid hx
        have Kz := Lib.hid hz
        clear hx hz Kv_0 Kv_1 Kv_2 Ko_0 Ko_1 Ko_2
        have C1 : Hid (∀ W, ST wp w.heap.size (w.heap.size + 1) bx bz vo vh VA vn vc oo oh OA on oc vo vh VA vn vc oo oh OA on oc W → Calls Try.prog 9 #[.agg #[.int .i64 vo, .int .i64 vh, .slice VA vn vc], .int .i64 x] W fun e w' => e = .returned (.bool b2) ∧ Below W.heap.size W w') := fun W h => by
          have := Sees_any vo vh VA vn vc vs x W (Vv.out.ints.later h.1) (by omega)
          rw [Hb2.out] at this; exact this
        have C2 : Hid (∀ W, ST wp w.heap.size (w.heap.size + 1) bx bz vo vh VA vn vc oo oh OA on oc vo vh VA vn vc oo oh OA on oc W → Calls Try.prog 15 #[.agg #[.int .i64 vo, .int .i64 vh, .slice VA vn vc], .int .i64 x] W fun e w' => e = .returned (.bool b2) ∧ Below W.heap.size W w') := fun W h => by
          have := rSees_any vo vh VA vn vc vs x W (Vv.out.ints.later h.1) (by omega)
          rw [Hb2.out] at this; exact this
        have C3 : Hid (∀ W, ST wp w.heap.size (w.heap.size + 1) bx bz vo vh VA vn vc oo oh OA on oc vo vh VA vn vc oo oh OA on oc W → Calls Try.prog 8 #[.agg #[.int .i64 vo, .int .i64 vh, .slice VA vn vc]] W fun e w' => e = .returned (.int .i64 l2) ∧ Below W.heap.size W w') := fun W h => by
          have := Least_any vo vh VA vn vc vs W (Vv.out.ints.later h.1) (by omega) hvh.2
          rw [Hl2.out] at this; exact this
        have C4 : Hid (∀ W, ST wp w.heap.size (w.heap.size + 1) bx bz vo vh VA vn vc oo oh OA on oc vo vh VA vn vc oo oh OA on oc W → Calls Try.prog 16 #[.agg #[.int .i64 vo, .int .i64 vh, .slice VA vn vc]] W fun e w' => e = .returned (.int .i64 l2) ∧ Below W.heap.size W w') := fun W h => by
          have := rLeast_any vo vh VA vn vc vs W (Vv.out.ints.later h.1) (by omega) hvh.2
          rw [Hr2.out] at this; exact this
        have C5 : Hid (∀ W, ST wp w.heap.size (w.heap.size + 1) bx bz vo vh VA vn vc oo oh OA on oc vo vh VA vn vc oo oh OA on oc W → Calls Try.prog 10 #[.agg #[.int .i64 vo, .int .i64 vh, .slice VA vn vc], .agg #[.int .i64 oo, .int .i64 oh, .slice OA on oc]] W fun e w' => e = .returned (.bool b3) ∧ Below W.heap.size W w') := fun W h => by
          have := Same_any vo vh oo oh VA OA vn on vc oc vs os W (Vv.out.ints.later h.1) (Vo.out.ints.later h.1) (by omega) (by omega)
          rw [Hb3.out] at this; exact this
        have C6 : Hid (∀ W, ST wp w.heap.size (w.heap.size + 1) bx bz vo vh VA vn vc oo oh OA on oc vo vh VA vn vc oo oh OA on oc W → Calls Try.prog 14 #[.agg #[.int .i64 vo, .int .i64 vh, .slice VA vn vc], .agg #[.int .i64 oo, .int .i64 oh, .slice OA on oc]] W fun e w' => e = .returned (.bool b3) ∧ Below W.heap.size W w') := fun W h => by
          have := rSame_any vo vh oo oh VA OA vn on vc oc vs os W (Vv.out.ints.later h.1) (Vo.out.ints.later h.1) (by omega) (by omega)
          rw [Hb3.out] at this; exact this
        have C7 : Hid (∀ W, ST wp w.heap.size (w.heap.size + 1) bx bz vo vh VA vn vc oo oh OA on oc vo vh VA vn vc oo oh OA on oc W → Calls Try.prog 10 #[.agg #[.int .i64 vo, .int .i64 vh, .slice VA vn vc], .agg #[.int .i64 vo, .int .i64 vh, .slice VA vn vc]] W fun e w' => e = .returned (.bool true) ∧ Below W.heap.size W w') := fun W h => by
          have := Same_any vo vh vo vh VA VA vn vn vc vc vs vs W (Vv.out.ints.later h.1) (Vv.out.ints.later h.1) (by omega) (by omega)
          rw [same_yes] at this; exact this
        have KS : Hid (∀ W W2, Below W.heap.size W W2 → ST wp w.heap.size (w.heap.size + 1) bx bz vo vh VA vn vc oo oh OA on oc vo vh VA vn vc oo oh OA on oc W → ST wp w.heap.size (w.heap.size + 1) bx bz vo vh VA vn vc oo oh OA on oc vo vh VA vn vc oo oh OA on oc W2) := fun W W2 h2 h1 => st_later Kv.out Ko.out Kx.out Kz.out (stepB h1.1 h2)
        have K0 : Hid (ST wp w.heap.size (w.heap.size + 1) bx bz vo vh VA vn vc oo oh OA on oc vo vh VA vn vc oo oh OA on oc wp.drew) := st_later Kv.out Ko.out Kx.out Kz.out (Below.drew (Below.refl _ _))
        go_upto_region 21 with fail
        go_cut [134] (fun s134 wx => s134 = .bool false ∧ Below wp.heap.size wp wx)
        case first =>
          go_region_held3 (ST wp w.heap.size (w.heap.size + 1) bx bz vo vh VA vn vc oo oh OA on oc vo vh VA vn vc oo oh OA on oc) (first | assumption | exact K0.out | exact KS.out _ _ (by assumption) (by assumption) | exact KS.out _ _ (below_drewN (Below.refl _ _) _) (by assumption)) (first
            | (go_at_call_of 10 (Value.agg #[.int .i64 oo, .int .i64 oh, .slice OA on oc]); refine (C5.out _ (by assumption)).mono ?_; rintro e wz ⟨rfl, hb⟩)
            | (go_at_call 10; refine (C7.out _ (by assumption)).mono ?_; rintro e wz ⟨rfl, hb⟩)
            | (go_at_call 9; refine (C1.out _ (by assumption)).mono ?_; rintro e wz ⟨rfl, hb⟩)
            | (go_at_call 15; refine (C2.out _ (by assumption)).mono ?_; rintro e wz ⟨rfl, hb⟩)
            | (go_at_call 8; refine (C3.out _ (by assumption)).mono ?_; rintro e wz ⟨rfl, hb⟩)
            | (go_at_call 16; refine (C4.out _ (by assumption)).mono ?_; rintro e wz ⟨rfl, hb⟩)
            | (go_at_call 14; refine (C6.out _ (by assumption)).mono ?_; rintro e wz ⟨rfl, hb⟩))
          all_goals (
            rename ST _ _ _ _ _ _ _ _ _ _ _ _ _ _ _ _ _ _ _ _ _ _ _ _ _ _ => hST
            have hz := Lib.hid hST.1
            clear hST
            go_wp2_with fail
            go_meet
            exact ⟨rfl, hz.out⟩)
        case rest =>
          obtain ⟨rfl, hb⟩ := hcut
          obtain ⟨wq, rfl⟩ : ∃ wq : World, wq = wc := ⟨_, rfl⟩
          clear C1 C2 C3 C4 C5 C6 C7 KS K0
          have HZ := Lib.hid (stepB HWo.out (stepB H31.out hb))
          have V0q := Lib.hid (V0.out.ints.later hb)
          have Vkq := Lib.hid (Vk.out.ints.later hb)
          clear hb V0 Vk Vv Vo Kv Ko Kx Kz
          go_wp2_with fail
          go_loopw [22] (fun i wr => ∃ j : Nat, j ≤ n ∧ i = .int .i64 j ∧ ∃ d, wr = wq.drewN d) (fun i _ => n - (intOf i).toNat)
          case atStart => exact ⟨0, by omega, rfl, 0, rfl⟩
          case round =>
            obtain ⟨j, hj, rfl, d, rfl⟩ := hrel
            by_cases hjl : j < n
            case pos =>
              obtain ⟨g1, f1, rfl, _, hc1⟩ := V0q.out.2 (by omega)
              obtain ⟨g2, f2, rfl, _, hc2⟩ := Vkq.out.2 (by omega)
              have q1 := hc1 j hjl
              have q2 := hc2 j hjl
              obtain ⟨y, hy⟩ : ∃ y, xs.getD j 0 = y := ⟨_, rfl⟩
              rw [hy] at q1 q2
              have hx1 := index_run g1 f1 n c j (j : Int) rfl hjl
              have hx2 := index_run g2 f2 n kc j (j : Int) rfl hjl
              have ey : (y != y) = false := by simp
              clear hc1 hc2 hy
              go_wp2
              go_quiet (fail)
              clear q1 q2 hx1 hx2
              go_wp2
              go_roundw
              case rel => exact ⟨j + 1, by omega, by go_num, d + nq, by first | rfl | simp⟩
              case measure => simp [intOf]; omega
            case neg =>
              go_wp2_with fail
              refine (awake_any _).mono ?_
              rintro e wz ⟨rfl, hb⟩
              have HE := Lib.hid (stepB (below_drewN HZ.out d) hb)
              clear hb
              go_wp2_with fail
              go_ret
              exact ⟨rfl, HE.out⟩

theorem walk (a0 a1 : Int) (A : Option Addr) (n c : Nat) (xs : List Int) (vo vh : Int) (VA : Option Addr) (vn vc : Nat) (vs : List Int) (oo oh : Int) (OA : Option Addr) (on oc : Nat) (os : List Int) (a5 : Int) (w : World)
    (h0 : (Lit.int .i64 a0).wf = true) (h1 : (Lit.int .i64 a1).wf = true) (hs : Sl w.heap.size w A n c xs) (hm : n ≤ maxLen) (hv : Sl w.heap.size w VA vn vc vs) (hvm : vn ≤ maxLen) (hvh : i64 vh) (ho : Sl w.heap.size w OA on oc os) (hom : on ≤ maxLen) (hoh : i64 oh) (h5 : (Lit.int .i64 a5).wf = true) :
    Calls Try.prog 4 #[.int .i64 a0, .int .i64 a1, .slice A n c, .agg #[.int .i64 vo, .int .i64 vh, .slice VA vn vc], .agg #[.int .i64 oo, .int .i64 oh, .slice OA on oc], .int .i64 a5] w fun e w' => e = .returned (.bool true) ∧ Below w.heap.size w w' := walk_in a0 a1 A n c xs vo vh VA vn vc vs oo oh OA on oc os a5 w hs hv ho hm hvm hom (i64_of h1) hvh


set_option maxRecDepth 100000 in
theorem lifted (os : Os) (started : os.Started) (H : Type) (enc : TypeId × Value → H) :
    ReturnsInHanded {} Try.checked os 4 .any (Rows.viewTellsSpec.pre6 enc Try.prog Try.f4 Rows.viewTellsRow.domain false) (Rows.viewTellsSpec.post enc Try.prog Try.f4 false true false false) := by
  refine returnsInHanded_of_change_sized (C := Try.checked) own started (by kernel_rfl) Try.func4
    (ChangeSpec.witness6 (enc := enc) (C := Try.checked) false ⟨#[], #[.int .i64 0, .int .i64 0, .slice none 0 0, .agg #[.int .i64 0, .int .i64 0, .slice none 0 0], .agg #[.int .i64 0, .int .i64 0, .slice none 0 0], .int .i64 0], []⟩ 8 (by kernel_rfl) (by kernel_rfl) (by kernel_rfl) (by kernel_rfl)) ?_
  intro W base args ds gs before hval0 hW _ hsz _
  have hval : ∀ (j : Nat) t v, Try.f4.params[j]? = some t → args[j]? = some v → Value.okWide Try.prog W .any base t v := hval0
  have hW' := hW
  obtain ⟨p, q, hA0, hV, hbef, _, _⟩ := hW
  have hA : DataW.TrodAll enc Try.prog W 0 (fun _ => true) true Try.f4.params.toList args.toList ds p := hA0
  rw [Try.params4] at hA hval
  obtain ⟨v0, vs0, d0, ds0, p0, q0, hargs, rfl, rfl, h0, r0⟩ := trodAll_cons hA
  obtain ⟨v1, vs1, d1, ds1, p1, q1, rfl, rfl, rfl, h1, r1⟩ := trodAll_cons r0
  obtain ⟨v2, vs2, d2, ds2, p2, q2, rfl, rfl, rfl, h2, r2⟩ := trodAll_cons r1
  obtain ⟨v3, vs3, d3, ds3, p3, q3, rfl, rfl, rfl, h3, r3⟩ := trodAll_cons r2
  obtain ⟨v4, vs4, d4, ds4, p4, q4, rfl, rfl, rfl, h4, r4⟩ := trodAll_cons r3
  obtain ⟨v5, vs5, d5, ds5, p5, q5, rfl, rfl, rfl, h5, r5⟩ := trodAll_cons r4
  obtain ⟨rfl, rfl, rfl⟩ := trodAll_nil r5
  obtain rfl : args = #[v0, v1, v2, v3, v4, v5] := by cases args; simp_all
  obtain ⟨rfl, rfl⟩ := trodVars_none hV
  obtain ⟨a0, rfl, _, _, w0⟩ := open_int Try.underlying3 (hval 0 3 v0 rfl rfl) h0
  obtain ⟨a1, rfl, _, _, w1⟩ := open_int Try.underlying3 (hval 1 3 v1 rfl rfl) h1
  obtain ⟨A2, n2, c2, xs2, rfl, sl2, mx2, rg2⟩ := open_int23 (hval 2 23 v2 rfl rfl) h2
  obtain ⟨ow3, hi3, A3, n3, c3, xs3, rfl, sl3, mx3, rg3, ro3, rh3⟩ := open_view (hval 3 25 v3 rfl rfl) h3
  obtain ⟨ow4, hi4, A4, n4, c4, xs4, rfl, sl4, mx4, rg4, ro4, rh4⟩ := open_view (hval 4 25 v4 rfl rfl) h4
  obtain ⟨a5, rfl, _, _, w5⟩ := open_int Try.underlying3 (hval 5 3 v5 rfl rfl) h5
  refine (walk a0 a1 A2 n2 c2 xs2 ow3 hi3 A3 n3 c3 xs3 ow4 hi4 A4 n4 c4 xs4 a5 W w0 w1 sl2 mx2 sl3 mx3 rh3 sl4 mx4 rh4 w5).mono fun e W' ⟨he, hb⟩ => ?_
  subst he
  exact ⟨_, rfl, law_post laidOut (of_decide_eq_true (by kernel_rfl)) rfl Try.underlying4 rfl rfl hW' hb⟩

theorem over : Rows.viewTellsRow.holds Try.pinned (OpenSpec.ofChange Rows.viewTellsSpec) :=
  OpenClaim.holds_of_wide 4 Try.f4 rfl rfl rfl rfl rfl rfl rfl ⟨rfl, rfl, rfl, rfl, rfl⟩ rfl rfl rfl rfl rfl (by kernel_rfl) Try.func4 (by kernel_rfl)
    (of_decide_eq_true (by kernel_rfl)) (by unfold Func.isWrapper; first | (rw [if_pos (by decide +kernel)]; kernel_rfl) | (rw [if_neg (by decide +kernel)]; exact ⟨rfl, rfl⟩))
    (fun os started H enc _ => lifted os started H enc)

end Go.Proofs.Ythicofdbcldpaaa.viewTells
namespace Go.Proofs.Ythicofdbcldpaaa
theorem viewTells_holds : Rows.ViewTellsSaid := viewTells.over
end Go.Proofs.Ythicofdbcldpaaa
