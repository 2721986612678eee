/-
Take undoes Put, and Put Take; Cut of the kid that was grafted undoes Graft; what comes of a node that may be may be. For every node, key, row, kid.
-/
import Derived.Test.YtiojjpmkiljngaaL
import Derived.Test.YtiojjpmkiljngaaO
import Derived.Test.YtiojjpmkiljngaaS
import Derived.Test.YtiojjpmkiljngaaM
namespace Go.Proofs.Ytiojjpmkiljngaa.forkBack
open Go.ChangeShapes Go.WideShapes Go.ChangeAt Go.RowKit Go.ChangeMaps
set_option linter.unusedVariables false
set_option linter.unusedSimpArgs false

theorem own : ownKnob Try.prog.godebug = none := by kernel_rfl
theorem laidOut : laidOutB Try.prog = true := by kernel_rfl

set_option maxRecDepth 100000 in
set_option maxHeartbeats 4000000 in
theorem w_large (lf : Bool) (A B C : Option Addr) (n c m d k e : Nat) (xs : List ByteArray) (ks rs : List Int) (key : ByteArray) (row kid : Int) (w : World) (hI : NdIn w A B C n c m d k e xs ks rs) (hL : largeB xs m k = true) : Calls Try.prog 6 #[.agg #[.bool lf, .slice A n c, .slice B m d, .slice C k e], .string key, .int .u64 row, .int .i64 kid] w (fun e w' => e = .returned (.bool true) ∧ Below w.heap.size w w') := by
  have hb0 : Below w.heap.size w (w.alloc (.cells #[.bool lf, .slice A n c, .slice B m d, .slice C k e] 28)) := (Below.refl _ _).alloc (Nat.le_refl _) _
  have b0 := Lib.hid (Blk.new w #[.bool lf, .slice A n c, .slice B m d, .slice C k e] 28)
  have c0 := b0.out.c4
  have HB0 := Lib.hid hb0
  have HI := Lib.hid hI
  have HL := Lib.hid hL
  clear hb0 hI hL
  go_enter Try.func6, Try.ntmps6
  go_wp2_with fail
  refine (large_any lf A B C n c m d k e xs _ (HI.out.K.rd.later HB0.out) (by have := HI.out.hn; omega) (by have := HI.out.hm; omega) (by have := HI.out.hk; omega) (fun s hs => by have := HI.out.hs s hs; omega)).mono ?_
  rintro x w1 ⟨rfl, hb⟩
  rw [HL.out]
  have HB1 := Lib.hid (stepB HB0.out hb)
  have b1 := Lib.hid (b0.out.later hb)
  have c1 := b1.out.c4
  clear hb b0 HB0 c0
  go_wp2_with fail
  refine (awake_any _).mono ?_
  rintro x w2 ⟨rfl, hb⟩
  have HB2 := Lib.hid (stepB HB1.out hb)
  have b2 := Lib.hid (b1.out.later hb)
  have c2 := b2.out.c4
  clear hb b1 HB1 c1
  go_wp2
  go_ret
  exact ⟨rfl, HB2.out⟩
set_option maxRecDepth 100000 in
set_option maxHeartbeats 4000000 in
theorem w_long (lf : Bool) (A B C : Option Addr) (n c m d k e : Nat) (xs : List ByteArray) (ks rs : List Int) (key : ByteArray) (row kid : Int) (w : World) (hI : NdIn w A B C n c m d k e xs ks rs) (hL : largeB xs m k = false) (hk : 3000 < key.size) : Calls Try.prog 6 #[.agg #[.bool lf, .slice A n c, .slice B m d, .slice C k e], .string key, .int .u64 row, .int .i64 kid] w (fun e w' => e = .returned (.bool true) ∧ Below w.heap.size w w') := by
  have hb0 : Below w.heap.size w (w.alloc (.cells #[.bool lf, .slice A n c, .slice B m d, .slice C k e] 28)) := (Below.refl _ _).alloc (Nat.le_refl _) _
  have b0 := Lib.hid (Blk.new w #[.bool lf, .slice A n c, .slice B m d, .slice C k e] 28)
  have c0 := b0.out.c4
  have HB0 := Lib.hid hb0
  have HI := Lib.hid hI
  have HL := Lib.hid hL
  have d1 : decide ((3000 : Int) < (key.size : Int)) = true := decide_eq_true (by omega)
  clear hb0 hI hL hk
  go_enter Try.func6, Try.ntmps6
  go_wp2_with fail
  refine (large_any lf A B C n c m d k e xs _ (HI.out.K.rd.later HB0.out) (by have := HI.out.hn; omega) (by have := HI.out.hm; omega) (by have := HI.out.hk; omega) (fun s hs => by have := HI.out.hs s hs; omega)).mono ?_
  rintro x w1 ⟨rfl, hb⟩
  rw [HL.out]
  have HB1 := Lib.hid (stepB HB0.out hb)
  have b1 := Lib.hid (b0.out.later hb)
  have c1 := b1.out.c4
  clear hb b0 HB0 c0
  go_wp2_with fail
  refine (awake_any _).mono ?_
  rintro x w2 ⟨rfl, hb⟩
  have HB2 := Lib.hid (stepB HB1.out hb)
  have b2 := Lib.hid (b1.out.later hb)
  have c2 := b2.out.c4
  clear hb b1 HB1 c1
  go_wp2
  go_ret
  exact ⟨rfl, HB2.out⟩
set_option maxRecDepth 100000 in
set_option maxHeartbeats 4000000 in
theorem w_wrong (lf : Bool) (A B C : Option Addr) (n c m d k e : Nat) (xs : List ByteArray) (ks rs : List Int) (key : ByteArray) (row kid : Int) (w : World) (hI : NdIn w A B C n c m d k e xs ks rs) (hL : largeB xs m k = false) (hk : ¬ 3000 < key.size) (hM : mayB lf xs m k = false) : Calls Try.prog 6 #[.agg #[.bool lf, .slice A n c, .slice B m d, .slice C k e], .string key, .int .u64 row, .int .i64 kid] w (fun e w' => e = .returned (.bool true) ∧ Below w.heap.size w w') := by
  have hb0 : Below w.heap.size w (w.alloc (.cells #[.bool lf, .slice A n c, .slice B m d, .slice C k e] 28)) := (Below.refl _ _).alloc (Nat.le_refl _) _
  have b0 := Lib.hid (Blk.new w #[.bool lf, .slice A n c, .slice B m d, .slice C k e] 28)
  have c0 := b0.out.c4
  have HB0 := Lib.hid hb0
  have HN : Hid (Nd w A B C n c m d k e xs ks rs) := ⟨hI.K, hI.D, hI.R, by have h1 := large_no hL; have h2 := wide_len xs; have h3 := hI.K.len; omega⟩
  have HI := Lib.hid hI
  have HL := Lib.hid hL
  have d1 : decide ((3000 : Int) < (key.size : Int)) = false := decide_eq_false (by omega)
  have HM := Lib.hid hM
  clear hb0 hI hL hk hM
  go_enter Try.func6, Try.ntmps6
  go_wp2_with fail
  refine (large_any lf A B C n c m d k e xs _ (HI.out.K.rd.later HB0.out) (by have := HI.out.hn; omega) (by have := HI.out.hm; omega) (by have := HI.out.hk; omega) (fun s hs => by have := HI.out.hs s hs; omega)).mono ?_
  rintro x w1 ⟨rfl, hb⟩
  rw [HL.out]
  have HB1 := Lib.hid (stepB HB0.out hb)
  have b1 := Lib.hid (b0.out.later hb)
  have c1 := b1.out.c4
  clear hb b0 HB0 c0
  go_wp2_with fail
  refine (awake_any _).mono ?_
  rintro x w2 ⟨rfl, hb⟩
  have HB2 := Lib.hid (stepB HB1.out hb)
  have b2 := Lib.hid (b1.out.later hb)
  have c2 := b2.out.c4
  clear hb b1 HB1 c1
  go_wp2_with fail
  refine (May_any lf A B C n c m d k e xs _ (HN.out.later HB2.out).K.rd (by have := HN.out.sz; omega) (by have := HN.out.sz; omega) (by have := HN.out.sz; omega)).mono ?_
  rintro x w3 ⟨rfl, hb⟩
  rw [HM.out]
  have HB3 := Lib.hid (stepB HB2.out hb)
  have b3 := Lib.hid (b2.out.later hb)
  have c3 := b3.out.c4
  clear hb b2 HB2 c2
  go_wp2_with fail
  refine (awake_any _).mono ?_
  rintro x w4 ⟨rfl, hb⟩
  have HB4 := Lib.hid (stepB HB3.out hb)
  have b4 := Lib.hid (b3.out.later hb)
  have c4 := b4.out.c4
  clear hb b3 HB3 c3
  go_wp2
  go_ret
  exact ⟨rfl, HB4.out⟩
set_option maxRecDepth 100000 in
set_option maxHeartbeats 4000000 in
theorem may_leaf {xs : List ByteArray} {m k : Nat} (hu : upB xs = true) (hk : k = xs.length) (hm : m = 0) : mayB true xs m k = true := by
  unfold mayB; rw [hu, if_pos rfl, decide_eq_true hk, decide_eq_true hm]; rfl
theorem may_node {xs : List ByteArray} {m k : Nat} (hu : upB xs = true) (hm : m = xs.length + 1) (hk : k = 0) : mayB false xs m k = true := by
  unfold mayB; rw [hu, if_neg (by decide), decide_eq_true hk, decide_eq_true hm]; rfl
theorem same31 (lf : Bool) (A B C : Option Addr) (n c m d k e : Nat) (xs : List ByteArray) (ks rs : List Int) (A' B' C' : Option Addr) (c' d' e' : Nat) (w : World) (hN : Nd w A B C n c m d k e xs ks rs) (hM : Nd w A' B' C' n c' m d' k e' xs ks rs) :
    Calls Try.prog 31 #[.agg #[.bool lf, .slice A n c, .slice B m d, .slice C k e], .agg #[.bool lf, .slice A' n c', .slice B' m d', .slice C' k e']] w (BoolEnd true w) := by
  have hb0 : Below w.heap.size w ((w.alloc (.cells #[.bool lf, .slice A n c, .slice B m d, .slice C k e] 28)).alloc (.cells #[.bool lf, .slice A' n c', .slice B' m d', .slice C' k e'] 28)) := ((Below.refl _ _).alloc (Nat.le_refl _) _).alloc (by simp) _
  have b0 := ((Blk.new w #[.bool lf, .slice A n c, .slice B m d, .slice C k e] 28).alloc (.cells #[.bool lf, .slice A' n c', .slice B' m d', .slice C' k e'] 28)).c4
  have b1 := (Blk.new2 (w.alloc (.cells #[.bool lf, .slice A n c, .slice B m d, .slice C k e] 28)) #[.bool lf, .slice A' n c', .slice B' m d', .slice C' k e'] 28 (B := w.heap.size + 1) (by simp)).c4
  have HB := Lib.hid hb0
  have hs := rsame_any lf A B C n c m d k e xs ks rs lf A' B' C' n c' m d' k e' xs ks rs _ (hN.later hb0) (hM.later hb0)
  rw [show sameN lf lf xs xs ks ks rs rs = true from decide_eq_true ⟨rfl, rfl, rfl, rfl⟩] at hs
  have HS := Lib.hid hs
  clear hb0 hN hM hs
  go_enter Try.func31, Try.ntmps31
  go_wp2_with fail
  refine (HS.out).mono ?_
  rintro x w2 ⟨rfl, hb⟩
  have HB2 := Lib.hid (stepB HB.out hb)
  clear hb HS
  go_wp2
  go_ret
  exact bool_end rfl HB2.out
abbrev SQ3 (w : World) (g h : Nat) (a b c d a' b' c' d' : Value) (r o : Nat) (u : Value) (W : World) : Prop := Aft w W ∧ C4 W g a b c d ∧ C4 W h a' b' c' d' ∧ W.cell? ⟨r, o, none⟩ = some u
section
variable {w W W' : World} {g h r o B : Nat} {a b c d a' b' c' d' u z0 z1 z2 z3 : Value}
theorem SQ3.later (s : SQ3 w g h a b c d a' b' c' d' r o u W) (hb : Below W.heap.size W W') : SQ3 w g h a b c d a' b' c' d' r o u W' := ⟨Aft.below s.1 hb, s.2.1.later hb, s.2.2.1.later hb, (hb.cell (p := ⟨r, o, none⟩) (lt_of_cell s.2.2.2)).trans s.2.2.2⟩
theorem SQ3.drew (s : SQ3 w g h a b c d a' b' c' d' r o u W) : SQ3 w g h a b c d a' b' c' d' r o u W.drew := ⟨Below.drew s.1, s.2⟩
theorem SQ3.alloc (s : SQ3 w g h a b c d a' b' c' d' r o u W) (q : Obj) : SQ3 w g h a b c d a' b' c' d' r o u (W.alloc q) := s.later ((Below.refl _ _).alloc (Nat.le_refl _) _)
theorem SQ3.set4 (s : SQ3 w g h a b c d a' b' c' d' r o u W) (h1 : w.heap.size ≤ B) (h2 : g ≠ B) (h3 : h ≠ B) (h4 : r ≠ B) : SQ3 w g h a b c d a' b' c' d' r o u ((((W.setCell ⟨B, 0, none⟩ z0).setCell ⟨B, 1, none⟩ z1).setCell ⟨B, 2, none⟩ z2).setCell ⟨B, 3, none⟩ z3) :=
  ⟨Go.Proofs.Ytiojjpmkiljngaa.set4 s.1 h1, s.2.1.set4 h2 _ _ _ _, s.2.2.1.set4 h3 _ _ _ _, by rw [cell_set_ne _ h4, cell_set_ne _ h4, cell_set_ne _ h4, cell_set_ne _ h4]; exact s.2.2.2⟩
end
set_option maxRecDepth 100000 in
set_option maxHeartbeats 4000000 in
theorem b_leaf_not (A B C : Option Addr) (n c d e : Nat) (xs : List ByteArray) (rs : List Int) (key : ByteArray) (row kid : Int) (w : World) (hI : NdIn w A B C n c 0 d n e xs [] rs) (hL : largeB xs 0 n = false) (hk : ¬ 3000 < key.size) (hM : mayB true xs 0 n = true) (hH : hasB xs key = false) : Calls Try.prog 6 #[.agg #[.bool true, .slice A n c, .slice B 0 d, .slice C n e], .string key, .int .u64 row, .int .i64 kid] w (fun e w' => e = .returned (.bool true) ∧ Below w.heap.size w w') := by
  have hb0 : Below w.heap.size w (w.alloc (.cells #[.bool true, .slice A n c, .slice B 0 d, .slice C n e] 28)) := (Below.refl _ _).alloc (Nat.le_refl _) _
  have b0 := Lib.hid (Blk.new w #[.bool true, .slice A n c, .slice B 0 d, .slice C n e] 28)
  have c0 := b0.out.c4
  have HB0 := Lib.hid hb0
  have HN : Hid (Nd w A B C n c 0 d n e xs [] rs) := ⟨hI.K, hI.D, hI.R, by have h1 := large_no hL; have h2 := wide_len xs; have h3 := hI.K.len; omega⟩
  have hz : n + 0 + n < 3000 := by have h1 := large_no hL; have h2 := wide_len xs; have h3 := hI.K.len; omega
  have HI := Lib.hid hI
  have HL := Lib.hid hL
  have d1 : decide ((3000 : Int) < (key.size : Int)) = false := decide_eq_false (by omega)
  have HM := Lib.hid hM
  have HU := Lib.hid (may_up hM)
  have HH := Lib.hid hH
  have hll := low_le xs key
  rw [hI.K.len] at hll
  have HKL := Lib.hid hI.K.len
  clear hb0 hI hL hk hM hH
  obtain ⟨l, hl⟩ : ∃ l, lowN xs key = l := ⟨_, rfl⟩
  rw [hl] at hll
  have HLO := Lib.hid hl
  have d5 : decide ((n : Int) < (l : Int)) = false := decide_eq_false (by omega)
  have HRL := Lib.hid HN.out.R.len
  have e1 : lowN (ins xs key l) key = l := by rw [← hl]; exact low_ins
  have E1 := Lib.hid e1
  have HM2 : Hid (mayB true (ins xs key l) 0 (n + 1) = true) := may_leaf (by rw [← hl]; exact up_ins HU.out HH.out) (by rw [ins_len _ _ (by rw [HKL.out]; exact hll), HKL.out]) rfl
  have HH2 : Hid (hasB (ins xs key l) key = true) := by show _ = _; rw [← hl]; exact has_ins
  have PUT : Hid (∀ W, Below w.heap.size w W → Calls Try.prog 13 #[.agg #[.bool true, .slice A n c, .slice B 0 d, .slice C n e], .string key, .int .u64 row] W (NodeEnd true (n + 1) 0 (n + 1) (ins xs key l) [] (ins rs row l) 0 W)) := fun W hW => by
    have := put_ok A B C n c 0 d n e xs [] rs key row W (HN.out.later hW) HM.out HH.out
    rw [HLO.out] at this
    exact this.mono fun x w' h => node_of h (by have := ins_len xs key (l := l) (by rw [HKL.out]; exact hll); rw [HKL.out] at this; exact this) rfl (by have := ins_len rs row (l := l) (by rw [HRL.out]; exact hll); rw [HRL.out] at this; exact this) (by omega)
  have TAKE : Hid (∀ (A B C : Option Addr) (c d e : Nat) (W : World), Nd W A B C (n + 1) c 0 d (n + 1) e (ins xs key l) [] (ins rs row l) → Calls Try.prog 14 #[.agg #[.bool true, .slice A (n + 1) c, .slice B 0 d, .slice C (n + 1) e], .string key] W (NodeEnd true n 0 n xs [] rs 0 W)) := fun A B C c d e W h => by
    have := take_ok A B C (n + 1) c 0 d (n + 1) e (ins xs key l) [] (ins rs row l) key W h HM2.out HH2.out
    rw [E1.out] at this
    have h2 : Calls Try.prog 14 #[.agg #[.bool true, .slice A (n + 1) c, .slice B 0 d, .slice C (n + 1) e], .string key] W (NdEnd true (del (ins xs key l) l) [] (del (ins rs row l) l) 0 W) := this
    rw [del_ins _ _ (by rw [HKL.out]; exact hll), del_ins _ _ (by rw [HRL.out]; exact hll)] at h2
    exact h2.mono fun x w' h => node_of h HKL.out rfl HRL.out (by omega)
  have HRI : Hid ((ins rs row l)[l]? = some row) := by show _ = _; rw [ins_at _ _ (by rw [HRL.out]; exact hll), if_neg (by omega), if_pos rfl]
  clear hl e1
  go_enter Try.func6, Try.ntmps6
  go_wp2_with fail
  refine (large_any true A B C n c 0 d n e xs _ (HI.out.K.rd.later HB0.out) (by have := HI.out.hn; omega) (by have := HI.out.hm; omega) (by have := HI.out.hk; omega) (fun s hs => by have := HI.out.hs s hs; omega)).mono ?_
  rintro x w1 ⟨rfl, hb⟩
  rw [HL.out]
  have HB1 := Lib.hid (stepB HB0.out hb)
  have b1 := Lib.hid (b0.out.later hb)
  have c1 := b1.out.c4
  clear hb b0 HB0 c0
  go_wp2_with fail
  refine (awake_any _).mono ?_
  rintro x w2 ⟨rfl, hb⟩
  have HB2 := Lib.hid (stepB HB1.out hb)
  have b2 := Lib.hid (b1.out.later hb)
  have c2 := b2.out.c4
  clear hb b1 HB1 c1
  go_wp2_with fail
  refine (May_any true A B C n c 0 d n e xs _ (HN.out.later HB2.out).K.rd (by have := HN.out.sz; omega) (by have := HN.out.sz; omega) (by have := HN.out.sz; omega)).mono ?_
  rintro x w3 ⟨rfl, hb⟩
  rw [HM.out]
  have HB3 := Lib.hid (stepB HB2.out hb)
  have b3 := Lib.hid (b2.out.later hb)
  have c3 := b3.out.c4
  clear hb b2 HB2 c2
  have N3 : Hid (VarAt w3 w.heap.size true A B C n c 0 d n e xs [] rs) := ⟨b3.out.c4, HN.out.later HB3.out⟩
  have cN3 := N3.out.1
  clear b3 c3
  go_wp2_with fail
  refine (place_c key l false N3.out.2 HM.out HLO.out HH.out).mono ?_
  rintro x w4 ⟨rfl, hb⟩
  have HB4 := Lib.hid (stepB HB3.out hb)
  have N4 := Lib.hid (N3.out.later hb)
  have cN4 := N4.out.1
  clear N3 cN3 HB3
  clear hb
  go_wp2_with fail
  refine (PUT.out _ HB4.out).mono ?_
  rintro x w5 ⟨AP, BP, CP, cP, dP, eP, rfl, hP, hb⟩
  have HB5 := Lib.hid (stepB HB4.out hb)
  have N5 := Lib.hid (N4.out.later hb)
  have cN5 := N5.out.1
  clear N4 cN4 HB4
  clear hb
  go_upto_region 11 with (fail)
  have hbw : Below w5.heap.size w5 (w5.alloc (.cells #[.bool true, .slice AP (n + 1) cP, .slice BP 0 dP, .slice CP (n + 1) eP] 28)) := (Below.refl _ _).alloc (Nat.le_refl _) _
  have P6 := Lib.hid (VarAt.new (lf := true) hP)
  have HB6 := Lib.hid (stepB HB5.out hbw)
  have N6 := Lib.hid (N5.out.later hbw)
  have cN6 := N6.out.1
  clear N5 cN5 HB5
  clear hbw
  have cP6 := P6.out.1
  try simp only [World.size_alloc] at P6 cP6
  generalize (w5.alloc (.cells #[.bool true, .slice AP (n + 1) cP, .slice BP 0 dP, .slice CP (n + 1) eP] 28)) = w6 at *
  generalize w5.heap.size = bP at P6 cP6 ⊢
  clear hP
  go_wp2_with fail
  refine (TAKE.out _ _ _ _ _ _ _ P6.out.2).mono ?_
  rintro x w7 ⟨AT, BT, CT, cT, dT, eT, rfl, hT, hb⟩
  have HB7 := Lib.hid (stepB HB6.out hb)
  have N7 := Lib.hid (N6.out.later hb)
  have P7 := Lib.hid (P6.out.later hb)
  have cN7 := N7.out.1
  have cP7 := P7.out.1
  clear N6 cN6 P6 cP6 HB6
  clear hb
  go_upto_region 12 with (fail)
  have hbw : Below w7.heap.size w7 (w7.alloc (.cells #[.bool true, .slice AT n cT, .slice BT 0 dT, .slice CT n eT] 28)) := (Below.refl _ _).alloc (Nat.le_refl _) _
  have T8 := Lib.hid (VarAt.new (lf := true) hT)
  have HB8 := Lib.hid (stepB HB7.out hbw)
  have N8 := Lib.hid (N7.out.later hbw)
  have P8 := Lib.hid (P7.out.later hbw)
  have cN8 := N8.out.1
  have cP8 := P8.out.1
  clear N7 cN7 P7 cP7 HB7
  clear hbw
  have cT8 := T8.out.1
  try simp only [World.size_alloc] at T8 cT8
  generalize (w7.alloc (.cells #[.bool true, .slice AT n cT, .slice BT 0 dT, .slice CT n eT] 28)) = w8 at *
  generalize w7.heap.size = bT at T8 cT8 ⊢
  clear hT
  go_wp2_with fail
  refine (place_c key l true P8.out.2 HM2.out E1.out HH2.out).mono ?_
  rintro x w9 ⟨rfl, hb⟩
  have HB9 := Lib.hid (stepB HB8.out hb)
  have N9 := Lib.hid (N8.out.later hb)
  have P9 := Lib.hid (P8.out.later hb)
  have T9 := Lib.hid (T8.out.later hb)
  have cN9 := N9.out.1
  have cP9 := P9.out.1
  have cT9 := T9.out.1
  clear N8 cN8 P8 cP8 T8 cT8 HB8
  clear hb
  go_wp2_with fail
  refine (may_c true P9.out.2 HM2.out).mono ?_
  rintro x w10 ⟨rfl, hb⟩
  have HB10 := Lib.hid (stepB HB9.out hb)
  have N10 := Lib.hid (N9.out.later hb)
  have P10 := Lib.hid (P9.out.later hb)
  have T10 := Lib.hid (T9.out.later hb)
  have cN10 := N10.out.1
  have cP10 := P10.out.1
  have cT10 := T10.out.1
  clear N9 cN9 P9 cP9 T9 cT9 HB9
  clear hb
  obtain ⟨gR, oR, y, hAR, hy, hcy⟩ := (P10.out.2).R.rd.at (j := l) (by omega)
  rw [HRI.out] at hy
  cases hy
  subst hAR
  simp only [hv] at hcy
  have ix := hindex gR oR (n + 1) eP l (l : Int) rfl (by omega)
  go_wp2_with fail
  refine (same31 true _ _ _ _ _ _ _ _ _ _ _ _ _ _ _ _ _ _ _ T10.out.2 N10.out.2).mono ?_
  rintro x w11 ⟨rfl, hb⟩
  have HB11 := Lib.hid (stepB HB10.out hb)
  have N11 := Lib.hid (N10.out.later hb)
  have P11 := Lib.hid (P10.out.later hb)
  have T11 := Lib.hid (T10.out.later hb)
  have cN11 := N11.out.1
  have cP11 := P11.out.1
  have cT11 := T11.out.1
  clear N10 cN10 P10 cP10 T10 cT10 HB10
  clear hb
  go_wp2
  go_ret
  exact ⟨rfl, HB11.out⟩
set_option maxRecDepth 100000 in
set_option maxHeartbeats 4000000 in
theorem b_inner_not (A B C : Option Addr) (n c m d e : Nat) (xs : List ByteArray) (ks : List Int) (key : ByteArray) (row kid : Int) (w : World) (hI : NdIn w A B C n c m d 0 e xs ks []) (hL : largeB xs m 0 = false) (hk : ¬ 3000 < key.size) (hM : mayB false xs m 0 = true) (hH : hasB xs key = false) : Calls Try.prog 6 #[.agg #[.bool false, .slice A n c, .slice B m d, .slice C 0 e], .string key, .int .u64 row, .int .i64 kid] w (fun e w' => e = .returned (.bool true) ∧ Below w.heap.size w w') := by
  have hb0 : Below w.heap.size w (w.alloc (.cells #[.bool false, .slice A n c, .slice B m d, .slice C 0 e] 28)) := (Below.refl _ _).alloc (Nat.le_refl _) _
  have b0 := Lib.hid (Blk.new w #[.bool false, .slice A n c, .slice B m d, .slice C 0 e] 28)
  have c0 := b0.out.c4
  have HB0 := Lib.hid hb0
  have HN : Hid (Nd w A B C n c m d 0 e xs ks []) := ⟨hI.K, hI.D, hI.R, by have h1 := large_no hL; have h2 := wide_len xs; have h3 := hI.K.len; omega⟩
  have hz : n + m + 0 < 3000 := by have h1 := large_no hL; have h2 := wide_len xs; have h3 := hI.K.len; omega
  have HI := Lib.hid hI
  have HL := Lib.hid hL
  have d1 : decide ((3000 : Int) < (key.size : Int)) = false := decide_eq_false (by omega)
  have HM := Lib.hid hM
  have HU := Lib.hid (may_up hM)
  have HH := Lib.hid hH
  have hll := low_le xs key
  rw [hI.K.len] at hll
  have HKL := Lib.hid hI.K.len
  clear hb0 hI hL hk hM hH
  obtain ⟨l, hl⟩ : ∃ l, lowN xs key = l := ⟨_, rfl⟩
  rw [hl] at hll
  have HLO := Lib.hid hl
  have d5 : decide ((n : Int) < (l : Int)) = false := decide_eq_false (by omega)
  have hmn : m = n + 1 := by have h := may_true HM.out; rw [if_neg (by decide)] at h; have := HKL.out; omega
  have HMN := Lib.hid hmn
  have HDL := Lib.hid HN.out.D.len
  clear hmn
  have e1 : lowN (ins xs key l) key = l := by rw [← hl]; exact low_ins
  have E1 := Lib.hid e1
  have HM2 : Hid (mayB false (ins xs key l) (m + 1) 0 = true) := may_node (by rw [← hl]; exact up_ins HU.out HH.out) (by rw [ins_len _ _ (by rw [HKL.out]; exact hll), HKL.out, HMN.out]) rfl
  have HKI : Hid (kidN (ins xs key l) key = l + 1) := by show _ = _; rw [← hl]; exact kid_ins
  have GRAFT : Hid (∀ W, Below w.heap.size w W → Calls Try.prog 16 #[.agg #[.bool false, .slice A n c, .slice B m d, .slice C 0 e], .string key, .int .i64 kid] W (NodeEnd false (n + 1) (m + 1) 0 (ins xs key l) (ins ks kid (l + 1)) [] 0 W)) := fun W hW => by
    have := graft_ok A B C n c m d 0 e xs ks [] key kid W (HN.out.later hW) HM.out HH.out
    rw [HLO.out] at this
    exact this.mono fun x w' h => node_of h (by have := ins_len xs key (l := l) (by rw [HKL.out]; exact hll); rw [HKL.out] at this; exact this) (by have := ins_len ks kid (l := l + 1) (by rw [HDL.out, HMN.out]; omega); rw [HDL.out] at this; exact this) rfl (by omega)
  have CUT : Hid (∀ (A B C : Option Addr) (c d e : Nat) (W : World), Nd W A B C (n + 1) c (m + 1) d 0 e (ins xs key l) (ins ks kid (l + 1)) [] → Calls Try.prog 17 #[.agg #[.bool false, .slice A (n + 1) c, .slice B (m + 1) d, .slice C 0 e], .int .i64 ((l : Int) + 1)] W (NodeEnd false n m 0 xs ks [] 0 W)) := fun A B C c d e W h => by
    have := cut_any A B C (n + 1) c (m + 1) d 0 e (ins xs key l) (ins ks kid (l + 1)) [] ((l : Int) + 1) (l + 1) W h HM2.out (by have := HMN.out; omega) (by omega) (by have := HMN.out; omega)
    have h2 : Calls Try.prog 17 #[.agg #[.bool false, .slice A (n + 1) c, .slice B (m + 1) d, .slice C 0 e], .int .i64 ((l : Int) + 1)] W (NdEnd false (del (ins xs key l) l) (del (ins ks kid (l + 1)) (l + 1)) [] 0 W) := this
    rw [del_ins _ _ (by rw [HKL.out]; exact hll), del_ins _ _ (by rw [HDL.out, HMN.out]; omega)] at h2
    exact h2.mono fun x w' h => node_of h HKL.out HDL.out rfl (by omega)
  have HRI : Hid ((ins ks kid (l + 1))[l + 1]? = some kid) := by show _ = _; rw [ins_at _ _ (by rw [HDL.out, HMN.out]; omega), if_neg (by omega), if_pos rfl]
  have w9 : IntKind.i64.wrap ((l : Int) + 1) = (l : Int) + 1 := IntWalk.i64_in _ (by omega)
  have hlm : l + 1 < m + 1 := by have := HMN.out; omega
  clear hl e1
  go_enter Try.func6, Try.ntmps6
  go_wp2_with fail
  refine (large_any false A B C n c m d 0 e xs _ (HI.out.K.rd.later HB0.out) (by have := HI.out.hn; omega) (by have := HI.out.hm; omega) (by have := HI.out.hk; omega) (fun s hs => by have := HI.out.hs s hs; omega)).mono ?_
  rintro x w1 ⟨rfl, hb⟩
  rw [HL.out]
  have HB1 := Lib.hid (stepB HB0.out hb)
  have b1 := Lib.hid (b0.out.later hb)
  have c1 := b1.out.c4
  clear hb b0 HB0 c0
  go_wp2_with fail
  refine (awake_any _).mono ?_
  rintro x w2 ⟨rfl, hb⟩
  have HB2 := Lib.hid (stepB HB1.out hb)
  have b2 := Lib.hid (b1.out.later hb)
  have c2 := b2.out.c4
  clear hb b1 HB1 c1
  go_wp2_with fail
  refine (May_any false A B C n c m d 0 e xs _ (HN.out.later HB2.out).K.rd (by have := HN.out.sz; omega) (by have := HN.out.sz; omega) (by have := HN.out.sz; omega)).mono ?_
  rintro x w3 ⟨rfl, hb⟩
  rw [HM.out]
  have HB3 := Lib.hid (stepB HB2.out hb)
  have b3 := Lib.hid (b2.out.later hb)
  have c3 := b3.out.c4
  clear hb b2 HB2 c2
  have N3 : Hid (VarAt w3 w.heap.size false A B C n c m d 0 e xs ks []) := ⟨b3.out.c4, HN.out.later HB3.out⟩
  have cN3 := N3.out.1
  clear b3 c3
  go_wp2_with fail
  refine (place_c key l false N3.out.2 HM.out HLO.out HH.out).mono ?_
  rintro x w4 ⟨rfl, hb⟩
  have HB4 := Lib.hid (stepB HB3.out hb)
  have N4 := Lib.hid (N3.out.later hb)
  have cN4 := N4.out.1
  clear N3 cN3 HB3
  clear hb
  go_wp2_with fail
  refine (GRAFT.out _ HB4.out).mono ?_
  rintro x w5 ⟨AP, BP, CP, cP, dP, eP, rfl, hP, hb⟩
  have HB5 := Lib.hid (stepB HB4.out hb)
  have N5 := Lib.hid (N4.out.later hb)
  have cN5 := N5.out.1
  clear N4 cN4 HB4
  clear hb
  go_upto_region 19 with (fail)
  have hbw : Below w5.heap.size w5 (w5.alloc (.cells #[.bool false, .slice AP (n + 1) cP, .slice BP (m + 1) dP, .slice CP 0 eP] 28)) := (Below.refl _ _).alloc (Nat.le_refl _) _
  have P6 := Lib.hid (VarAt.new (lf := false) hP)
  have HB6 := Lib.hid (stepB HB5.out hbw)
  have N6 := Lib.hid (N5.out.later hbw)
  have cN6 := N6.out.1
  clear N5 cN5 HB5
  clear hbw
  have cP6 := P6.out.1
  try simp only [World.size_alloc] at P6 cP6
  generalize (w5.alloc (.cells #[.bool false, .slice AP (n + 1) cP, .slice BP (m + 1) dP, .slice CP 0 eP] 28)) = w6 at *
  generalize w5.heap.size = bP at P6 cP6 ⊢
  clear hP
  go_wp2_with fail
  refine (kid_c key (l + 1) P6.out.2 HM2.out HKI.out).mono ?_
  rintro x w7 ⟨rfl, hb⟩
  have HB7 := Lib.hid (stepB HB6.out hb)
  have N7 := Lib.hid (N6.out.later hb)
  have P7 := Lib.hid (P6.out.later hb)
  have cN7 := N7.out.1
  have cP7 := P7.out.1
  clear N6 cN6 P6 cP6 HB6
  clear hb
  go_wp2_with fail
  refine (CUT.out _ _ _ _ _ _ _ P7.out.2).mono ?_
  rintro x w8 ⟨AT, BT, CT, cT, dT, eT, rfl, hT, hb⟩
  have HB8 := Lib.hid (stepB HB7.out hb)
  have N8 := Lib.hid (N7.out.later hb)
  have P8 := Lib.hid (P7.out.later hb)
  have cN8 := N8.out.1
  have cP8 := P8.out.1
  clear N7 cN7 P7 cP7 HB7
  clear hb
  go_upto_region 21 with (fail)
  have hbw : Below w8.heap.size w8 (w8.alloc (.cells #[.bool false, .slice AT n cT, .slice BT m dT, .slice CT 0 eT] 28)) := (Below.refl _ _).alloc (Nat.le_refl _) _
  have T9 := Lib.hid (VarAt.new (lf := false) hT)
  have HB9 := Lib.hid (stepB HB8.out hbw)
  have N9 := Lib.hid (N8.out.later hbw)
  have P9 := Lib.hid (P8.out.later hbw)
  have cN9 := N9.out.1
  have cP9 := P9.out.1
  clear N8 cN8 P8 cP8 HB8
  clear hbw
  have cT9 := T9.out.1
  try simp only [World.size_alloc] at T9 cT9
  generalize (w8.alloc (.cells #[.bool false, .slice AT n cT, .slice BT m dT, .slice CT 0 eT] 28)) = w9 at *
  generalize w8.heap.size = bT at T9 cT9 ⊢
  clear hT
  go_wp2_with fail
  refine (may_c true P9.out.2 HM2.out).mono ?_
  rintro x w10 ⟨rfl, hb⟩
  have HB10 := Lib.hid (stepB HB9.out hb)
  have N10 := Lib.hid (N9.out.later hb)
  have P10 := Lib.hid (P9.out.later hb)
  have T10 := Lib.hid (T9.out.later hb)
  have cN10 := N10.out.1
  have cP10 := P10.out.1
  have cT10 := T10.out.1
  clear N9 cN9 P9 cP9 T9 cT9 HB9
  clear hb
  obtain ⟨gR, oR, y, hAR, hy, hcy⟩ := (P10.out.2).D.rd.at (j := l + 1) (by omega)
  rw [HRI.out] at hy
  cases hy
  subst hAR
  simp only [iv] at hcy
  have ix := iindex gR oR (m + 1) dP (l + 1) ((l : Int) + 1) (by omega) (by omega)
  go_wp2_with fail
  refine (same31 false _ _ _ _ _ _ _ _ _ _ _ _ _ _ _ _ _ _ _ T10.out.2 N10.out.2).mono ?_
  rintro x w11 ⟨rfl, hb⟩
  have HB11 := Lib.hid (stepB HB10.out hb)
  have N11 := Lib.hid (N10.out.later hb)
  have P11 := Lib.hid (P10.out.later hb)
  have T11 := Lib.hid (T10.out.later hb)
  have cN11 := N11.out.1
  have cP11 := P11.out.1
  have cT11 := T11.out.1
  clear N10 cN10 P10 cP10 T10 cT10 HB10
  clear hb
  go_wp2
  go_ret
  exact ⟨rfl, HB11.out⟩
set_option maxRecDepth 100000 in
set_option maxHeartbeats 4000000 in
theorem b_leaf_has (A B C : Option Addr) (n c d e : Nat) (xs : List ByteArray) (rs : List Int) (key : ByteArray) (row kid : Int) (w : World) (hI : NdIn w A B C n c 0 d n e xs [] rs) (hL : largeB xs 0 n = false) (hk : ¬ 3000 < key.size) (hM : mayB true xs 0 n = true) (hH : hasB xs key = true) : Calls Try.prog 6 #[.agg #[.bool true, .slice A n c, .slice B 0 d, .slice C n e], .string key, .int .u64 row, .int .i64 kid] w (fun e w' => e = .returned (.bool true) ∧ Below w.heap.size w w') := by
  have hb0 : Below w.heap.size w (w.alloc (.cells #[.bool true, .slice A n c, .slice B 0 d, .slice C n e] 28)) := (Below.refl _ _).alloc (Nat.le_refl _) _
  have b0 := Lib.hid (Blk.new w #[.bool true, .slice A n c, .slice B 0 d, .slice C n e] 28)
  have c0 := b0.out.c4
  have HB0 := Lib.hid hb0
  have HN : Hid (Nd w A B C n c 0 d n e xs [] rs) := ⟨hI.K, hI.D, hI.R, by have h1 := large_no hL; have h2 := wide_len xs; have h3 := hI.K.len; omega⟩
  have hz : n + 0 + n < 3000 := by have h1 := large_no hL; have h2 := wide_len xs; have h3 := hI.K.len; omega
  have HI := Lib.hid hI
  have HL := Lib.hid hL
  have d1 : decide ((3000 : Int) < (key.size : Int)) = false := decide_eq_false (by omega)
  have HM := Lib.hid hM
  have HU := Lib.hid (may_up hM)
  have HH := Lib.hid hH
  have hll := low_le xs key
  rw [hI.K.len] at hll
  have HKL := Lib.hid hI.K.len
  clear hb0 hI hL hk hM hH
  obtain ⟨l, hl⟩ : ∃ l, lowN xs key = l := ⟨_, rfl⟩
  rw [hl] at hll
  have HLO := Lib.hid hl
  have d5 : decide ((n : Int) < (l : Int)) = false := decide_eq_false (by omega)
  have HRL := Lib.hid HN.out.R.len
  have hlt : l < n := by have h := has_lt HH.out; rw [HKL.out, hl] at h; exact h
  obtain ⟨nt, hnt⟩ : ∃ nt, n = nt + 1 := ⟨n - 1, by omega⟩
  have HNT := Lib.hid hnt
  have e1 : lowN (del xs l) key = l := by rw [← hl]; exact low_del HU.out HH.out
  have E1 := Lib.hid e1
  have LD : Hid ((del xs l).length = nt) := by show _ = _; have h := del_len xs (l := l) (by rw [HKL.out]; exact hlt); have := HKL.out; omega
  have LR : Hid ((del rs l).length = nt) := by show _ = _; have h := del_len rs (l := l) (by rw [HRL.out]; exact hlt); have := HRL.out; omega
  have HM2 : Hid (mayB true (del xs l) 0 nt = true) := may_leaf (by rw [← hl]; exact up_del HU.out (has_lt HH.out)) LD.out.symm rfl
  have HH2 : Hid (hasB (del xs l) key = false) := by show _ = _; rw [← hl]; exact has_del HU.out HH.out
  have HK1 : Hid (xs[l]? = some key) := by show _ = _; rw [← hl]; exact has_eq HH.out
  obtain ⟨gR, oR, y, hAR, hy, hcy⟩ := HN.out.R.rd.at (j := l) hlt
  simp only [hv] at hcy
  have hgl := lt_of_cell hcy
  have HCY := Lib.hid hcy
  have HY := Lib.hid hy
  subst hAR
  have TAKE : Hid (∀ W, Below w.heap.size w W → Calls Try.prog 14 #[.agg #[.bool true, .slice A n c, .slice B 0 d, .slice (some ⟨gR, oR, none⟩) n e], .string key] W (NodeEnd true nt 0 nt (del xs l) [] (del rs l) 0 W)) := fun W hW => by
    have := take_ok A B (some ⟨gR, oR, none⟩) n c 0 d n e xs [] rs key W (HN.out.later hW) HM.out HH.out
    rw [HLO.out] at this
    exact this.mono fun x w' h => node_of h LD.out rfl LR.out (by omega)
  have PUT : Hid (∀ (A B C : Option Addr) (c d e : Nat) (W : World), Nd W A B C nt c 0 d nt e (del xs l) [] (del rs l) → Calls Try.prog 13 #[.agg #[.bool true, .slice A nt c, .slice B 0 d, .slice C nt e], .string key, .int .u64 y] W (NodeEnd true n 0 n xs [] rs 0 W)) := fun A B C c d e W h => by
    have := put_ok A B C nt c 0 d nt e (del xs l) [] (del rs l) key y W h HM2.out HH2.out
    rw [E1.out] at this
    have h2 : Calls Try.prog 13 #[.agg #[.bool true, .slice A nt c, .slice B 0 d, .slice C nt e], .string key, .int .u64 y] W (NdEnd true (ins (del xs l) key l) [] (ins (del rs l) y l) 0 W) := this
    rw [ins_del xs key HK1.out, ins_del rs y HY.out] at h2
    exact h2.mono fun x w' h => node_of h HKL.out rfl HRL.out (by omega)
  have ix := hindex gR oR n e l (l : Int) rfl hlt
  have w9 : IntKind.i64.wrap ((n : Int) - 1) = (nt : Int) := (IntWalk.i64_in _ (by omega)).trans (by omega)
  have w10 : (n : Int) - 1 = (nt : Int) := by omega
  clear hl e1 hnt hy hcy
  go_enter Try.func6, Try.ntmps6
  go_wp2_with fail
  refine (large_any true A B (some ⟨gR, oR, none⟩) n c 0 d n e xs _ (HI.out.K.rd.later HB0.out) (by have := HI.out.hn; omega) (by have := HI.out.hm; omega) (by have := HI.out.hk; omega) (fun s hs => by have := HI.out.hs s hs; omega)).mono ?_
  rintro x w1 ⟨rfl, hb⟩
  rw [HL.out]
  have HB1 := Lib.hid (stepB HB0.out hb)
  have b1 := Lib.hid (b0.out.later hb)
  have c1 := b1.out.c4
  clear hb b0 HB0 c0
  go_wp2_with fail
  refine (awake_any _).mono ?_
  rintro x w2 ⟨rfl, hb⟩
  have HB2 := Lib.hid (stepB HB1.out hb)
  have b2 := Lib.hid (b1.out.later hb)
  have c2 := b2.out.c4
  clear hb b1 HB1 c1
  go_wp2_with fail
  refine (May_any true A B (some ⟨gR, oR, none⟩) n c 0 d n e xs _ (HN.out.later HB2.out).K.rd (by have := HN.out.sz; omega) (by have := HN.out.sz; omega) (by have := HN.out.sz; omega)).mono ?_
  rintro x w3 ⟨rfl, hb⟩
  rw [HM.out]
  have HB3 := Lib.hid (stepB HB2.out hb)
  have b3 := Lib.hid (b2.out.later hb)
  have c3 := b3.out.c4
  clear hb b2 HB2 c2
  have N3 : Hid (VarAt w3 w.heap.size true A B (some ⟨gR, oR, none⟩) n c 0 d n e xs [] rs) := ⟨b3.out.c4, HN.out.later HB3.out⟩
  have cN3 := N3.out.1
  clear b3 c3
  go_wp2_with fail
  refine (place_c key l true N3.out.2 HM.out HLO.out HH.out).mono ?_
  rintro x w4 ⟨rfl, hb⟩
  have HB4 := Lib.hid (stepB HB3.out hb)
  have N4 := Lib.hid (N3.out.later hb)
  have cN4 := N4.out.1
  clear N3 cN3 HB3
  clear hb
  go_wp2_with fail
  refine (TAKE.out _ HB4.out).mono ?_
  rintro x w5 ⟨AP, BP, CP, cP, dP, eP, rfl, hP, hb⟩
  have HB5 := Lib.hid (stepB HB4.out hb)
  have N5 := Lib.hid (N4.out.later hb)
  have cN5 := N5.out.1
  clear N4 cN4 HB4
  clear hb
  go_upto_region 8 with (fail)
  have hbw : Below w5.heap.size w5 (w5.alloc (.cells #[.bool true, .slice AP nt cP, .slice BP 0 dP, .slice CP nt eP] 28)) := (Below.refl _ _).alloc (Nat.le_refl _) _
  have P6 := Lib.hid (VarAt.new (lf := true) hP)
  have HB6 := Lib.hid (stepB HB5.out hbw)
  have N6 := Lib.hid (N5.out.later hbw)
  have cN6 := N6.out.1
  clear N5 cN5 HB5
  clear hbw
  have cP6 := P6.out.1
  try simp only [World.size_alloc] at P6 cP6
  generalize (w5.alloc (.cells #[.bool true, .slice AP nt cP, .slice BP 0 dP, .slice CP nt eP] 28)) = w6 at *
  generalize w5.heap.size = bP at P6 cP6 ⊢
  clear hP
  have K0 : Hid ((SQ3 w w.heap.size bP (.bool true) (.slice A n c) (.slice B 0 d) (.slice (some ⟨gR, oR, none⟩) n e) (.bool true) (.slice AP nt cP) (.slice BP 0 dP) (.slice CP nt eP) gR (oR + l) (.int .u64 y)) w6) := ⟨HB6.out, cN6, cP6, (HB6.out.cell (p := ⟨gR, oR + l, none⟩) hgl).trans HCY.out⟩
  have nP := lt_of_cell cP6.1
  have nN := lt_of_cell cN6.1
  go_region_held3 (SQ3 w w.heap.size bP (.bool true) (.slice A n c) (.slice B 0 d) (.slice (some ⟨gR, oR, none⟩) n e) (.bool true) (.slice AP nt cP) (.slice BP 0 dP) (.slice CP nt eP) gR (oR + l) (.int .u64 y)) (repeat (first | with_reducible assumption | with_reducible exact K0.out | with_reducible refine SQ3.drew ?_ | with_reducible refine SQ3.alloc ?_ _ | with_reducible refine SQ3.later ?_ (by with_reducible assumption) | refine SQ3.set4 ?_ (by omega) (by omega) (by omega) (by omega))) (first
    | (go_at_call 13; refine (PUT.out _ _ _ _ _ _ _ (P6.out.2.later (show Aft w6 _ by (repeat (first | with_reducible assumption | with_reducible exact Aft.refl _ | with_reducible exact Aft.drewN2 (by with_reducible assumption) _ | with_reducible refine Aft.drew ?_ | with_reducible refine Aft.drewN ?_ _ | with_reducible refine Aft.alloc ?_ _ | with_reducible refine Aft.below ?_ (by with_reducible assumption)))))).mono ?_; rintro x wC ⟨AT, BT, CT, cT, dT, eT, rfl, hT, hb⟩; (try (have lB := L4.later (Blk.l4 (Blk.drewl (Blk.new _ _ 28))) hb))))
  · rename_i hq0
    clear hq0
    have hbb : Below w6.heap.size w6 wC := by show Aft _ _; (repeat (first | with_reducible assumption | with_reducible exact Aft.refl _ | with_reducible exact Aft.drewN2 (by with_reducible assumption) _ | with_reducible refine Aft.drew ?_ | with_reducible refine Aft.drewN ?_ _ | with_reducible refine Aft.alloc ?_ _ | with_reducible refine Aft.below ?_ (by with_reducible assumption)))
    obtain ⟨w7, rfl⟩ : ∃ W : World, W = wC := ⟨_, rfl⟩
    have HB7 := Lib.hid (stepB HB6.out hbb)
    have N7 := Lib.hid (N6.out.later hbb)
    have P7 := Lib.hid (P6.out.later hbb)
    have cN7 := N7.out.1
    have cP7 := P7.out.1
    clear N6 cN6 P6 cP6 HB6
    clear hb hbb K0
    have hbw : Below w7.heap.size w7 (w7.alloc (.cells #[.bool true, .slice AT n cT, .slice BT 0 dT, .slice CT n eT] 28)) := (Below.refl _ _).alloc (Nat.le_refl _) _
    have T8 := Lib.hid (VarAt.new (lf := true) hT)
    have HB8 := Lib.hid (stepB HB7.out hbw)
    have N8 := Lib.hid (N7.out.later hbw)
    have P8 := Lib.hid (P7.out.later hbw)
    have cN8 := N8.out.1
    have cP8 := P8.out.1
    clear N7 cN7 P7 cP7 HB7
    clear hbw
    have cT8 := T8.out.1
    try simp only [World.size_alloc] at T8 cT8
    generalize (w7.alloc (.cells #[.bool true, .slice AT n cT, .slice BT 0 dT, .slice CT n eT] 28)) = w8 at *
    generalize w7.heap.size = bT at T8 cT8 ⊢
    clear hT
    go_wp2_with fail
    refine (may_c true P8.out.2 HM2.out).mono ?_
    rintro x w9 ⟨rfl, hb⟩
    have HB9 := Lib.hid (stepB HB8.out hb)
    have N9 := Lib.hid (N8.out.later hb)
    have P9 := Lib.hid (P8.out.later hb)
    have T9 := Lib.hid (T8.out.later hb)
    have cN9 := N9.out.1
    have cP9 := P9.out.1
    have cT9 := T9.out.1
    clear N8 cN8 P8 cP8 T8 cT8 HB8
    clear hb
    go_wp2_with fail
    refine (same31 true _ _ _ _ _ _ _ _ _ _ _ _ _ _ _ _ _ _ _ T9.out.2 N9.out.2).mono ?_
    rintro x w10 ⟨rfl, hb⟩
    have HB10 := Lib.hid (stepB HB9.out hb)
    have N10 := Lib.hid (N9.out.later hb)
    have P10 := Lib.hid (P9.out.later hb)
    have T10 := Lib.hid (T9.out.later hb)
    have cN10 := N10.out.1
    have cP10 := P10.out.1
    have cT10 := T10.out.1
    clear N9 cN9 P9 cP9 T9 cT9 HB9
    clear hb
    go_wp2
    go_ret
    exact ⟨rfl, HB10.out⟩
  · rename_i hq0
    clear hq0
    have hbb : Below w6.heap.size w6 wC := by show Aft _ _; (repeat (first | with_reducible assumption | with_reducible exact Aft.refl _ | with_reducible exact Aft.drewN2 (by with_reducible assumption) _ | with_reducible refine Aft.drew ?_ | with_reducible refine Aft.drewN ?_ _ | with_reducible refine Aft.alloc ?_ _ | with_reducible refine Aft.below ?_ (by with_reducible assumption)))
    obtain ⟨w7, rfl⟩ : ∃ W : World, W = wC := ⟨_, rfl⟩
    have hBk : Blk w7 w6.heap.size #[.bool false, .slice none 0 0, .slice none 0 0, .slice none 0 0] 28 := (Blk.drewl (Blk.new _ _ 28)).later hb
    have HB7 := Lib.hid (stepB HB6.out hbb)
    have N7 := Lib.hid (N6.out.later hbb)
    have P7 := Lib.hid (P6.out.later hbb)
    have cN7 := N7.out.1
    have cP7 := P7.out.1
    clear N6 cN6 P6 cP6 HB6
    clear hb hbb K0
    have HB8 : Hid (Below w.heap.size w (((((w7).setCell ⟨w6.heap.size, 0, none⟩ (.bool true)).setCell ⟨w6.heap.size, 1, none⟩ (.slice AT n cT)).setCell ⟨w6.heap.size, 2, none⟩ (.slice BT 0 dT)).setCell ⟨w6.heap.size, 3, none⟩ (.slice CT n eT))) := set4 HB7.out (by omega)
    have N8 := Lib.hid (N7.out.set4 hBk rfl rfl rfl rfl (by omega) (.bool true) (.slice AT n cT) (.slice BT 0 dT) (.slice CT n eT))
    have P8 := Lib.hid (P7.out.set4 hBk rfl rfl rfl rfl (by omega) (.bool true) (.slice AT n cT) (.slice BT 0 dT) (.slice CT n eT))
    have T8 : Hid (VarAt (((((w7).setCell ⟨w6.heap.size, 0, none⟩ (.bool true)).setCell ⟨w6.heap.size, 1, none⟩ (.slice AT n cT)).setCell ⟨w6.heap.size, 2, none⟩ (.slice BT 0 dT)).setCell ⟨w6.heap.size, 3, none⟩ (.slice CT n eT)) w6.heap.size true AT BT CT n cT 0 dT n eT xs [] rs) := ⟨(blk_set4 hBk).c4, hT.set4 hBk rfl rfl rfl rfl _ _ _ _⟩
    clear hT hBk lB HB7 N7 P7 cN7 cP7
    generalize (((((w7).setCell ⟨w6.heap.size, 0, none⟩ (.bool true)).setCell ⟨w6.heap.size, 1, none⟩ (.slice AT n cT)).setCell ⟨w6.heap.size, 2, none⟩ (.slice BT 0 dT)).setCell ⟨w6.heap.size, 3, none⟩ (.slice CT n eT)) = w8 at *
    generalize w6.heap.size = bT at T8 nP nN ⊢
    have cN8 := N8.out.1
    have cP8 := P8.out.1
    have cT8 := T8.out.1
    go_wp2_with fail
    refine (may_c true P8.out.2 HM2.out).mono ?_
    rintro x w9 ⟨rfl, hb⟩
    have HB9 := Lib.hid (stepB HB8.out hb)
    have N9 := Lib.hid (N8.out.later hb)
    have P9 := Lib.hid (P8.out.later hb)
    have T9 := Lib.hid (T8.out.later hb)
    have cN9 := N9.out.1
    have cP9 := P9.out.1
    have cT9 := T9.out.1
    clear N8 cN8 P8 cP8 T8 cT8 HB8
    clear hb
    go_wp2_with fail
    refine (same31 true _ _ _ _ _ _ _ _ _ _ _ _ _ _ _ _ _ _ _ T9.out.2 N9.out.2).mono ?_
    rintro x w10 ⟨rfl, hb⟩
    have HB10 := Lib.hid (stepB HB9.out hb)
    have N10 := Lib.hid (N9.out.later hb)
    have P10 := Lib.hid (P9.out.later hb)
    have T10 := Lib.hid (T9.out.later hb)
    have cN10 := N10.out.1
    have cP10 := P10.out.1
    have cT10 := T10.out.1
    clear N9 cN9 P9 cP9 T9 cT9 HB9
    clear hb
    go_wp2
    go_ret
    exact ⟨rfl, HB10.out⟩
set_option maxRecDepth 100000 in
set_option maxHeartbeats 4000000 in
theorem b_inner_has (A B C : Option Addr) (n c m d e : Nat) (xs : List ByteArray) (ks : List Int) (key : ByteArray) (row kid : Int) (w : World) (hI : NdIn w A B C n c m d 0 e xs ks []) (hL : largeB xs m 0 = false) (hk : ¬ 3000 < key.size) (hM : mayB false xs m 0 = true) (hH : hasB xs key = true) : Calls Try.prog 6 #[.agg #[.bool false, .slice A n c, .slice B m d, .slice C 0 e], .string key, .int .u64 row, .int .i64 kid] w (fun e w' => e = .returned (.bool true) ∧ Below w.heap.size w w') := by
  have hb0 : Below w.heap.size w (w.alloc (.cells #[.bool false, .slice A n c, .slice B m d, .slice C 0 e] 28)) := (Below.refl _ _).alloc (Nat.le_refl _) _
  have b0 := Lib.hid (Blk.new w #[.bool false, .slice A n c, .slice B m d, .slice C 0 e] 28)
  have c0 := b0.out.c4
  have HB0 := Lib.hid hb0
  have HN : Hid (Nd w A B C n c m d 0 e xs ks []) := ⟨hI.K, hI.D, hI.R, by have h1 := large_no hL; have h2 := wide_len xs; have h3 := hI.K.len; omega⟩
  have hz : n + m + 0 < 3000 := by have h1 := large_no hL; have h2 := wide_len xs; have h3 := hI.K.len; omega
  have HI := Lib.hid hI
  have HL := Lib.hid hL
  have d1 : decide ((3000 : Int) < (key.size : Int)) = false := decide_eq_false (by omega)
  have HM := Lib.hid hM
  have HU := Lib.hid (may_up hM)
  have HH := Lib.hid hH
  have hll := low_le xs key
  rw [hI.K.len] at hll
  have HKL := Lib.hid hI.K.len
  clear hb0 hI hL hk hM hH
  obtain ⟨l, hl⟩ : ∃ l, lowN xs key = l := ⟨_, rfl⟩
  rw [hl] at hll
  have HLO := Lib.hid hl
  have d5 : decide ((n : Int) < (l : Int)) = false := decide_eq_false (by omega)
  have hmn : m = n + 1 := by have h := may_true HM.out; rw [if_neg (by decide)] at h; have := HKL.out; omega
  have HMN := Lib.hid hmn
  have HDL := Lib.hid HN.out.D.len
  clear hmn
  have hlt : l < n := by have h := has_lt HH.out; rw [HKL.out, hl] at h; exact h
  obtain ⟨nt, hnt⟩ : ∃ nt, n = nt + 1 := ⟨n - 1, by omega⟩
  obtain ⟨mt, hmt⟩ : ∃ mt, m = mt + 1 := ⟨m - 1, by have := HMN.out; omega⟩
  have HNT := Lib.hid hnt
  have HMT := Lib.hid hmt
  have hlm : l + 1 < m := by have := HMN.out; omega
  have e1 : lowN (del xs l) key = l := by rw [← hl]; exact low_del HU.out HH.out
  have E1 := Lib.hid e1
  have LD : Hid ((del xs l).length = nt) := by show _ = _; have h := del_len xs (l := l) (by rw [HKL.out]; exact hlt); have := HKL.out; omega
  have LR : Hid ((del ks (l + 1)).length = mt) := by show _ = _; have h := del_len ks (l := l + 1) (by rw [HDL.out]; exact hlm); have := HDL.out; omega
  have HM2 : Hid (mayB false (del xs l) mt 0 = true) := may_node (by rw [← hl]; exact up_del HU.out (has_lt HH.out)) (by rw [LD.out]; have := HMN.out; omega) rfl
  have HH2 : Hid (hasB (del xs l) key = false) := by show _ = _; rw [← hl]; exact has_del HU.out HH.out
  have HK1 : Hid (xs[l]? = some key) := by show _ = _; rw [← hl]; exact has_eq HH.out
  obtain ⟨gR, oR, y, hAR, hy, hcy⟩ := HN.out.D.rd.at (j := l + 1) hlm
  simp only [iv] at hcy
  have hgl := lt_of_cell hcy
  have HCY := Lib.hid hcy
  have HY := Lib.hid hy
  subst hAR
  have CUT : Hid (∀ W, Below w.heap.size w W → Calls Try.prog 17 #[.agg #[.bool false, .slice A n c, .slice (some ⟨gR, oR, none⟩) m d, .slice C 0 e], .int .i64 ((l : Int) + 1)] W (NodeEnd false nt mt 0 (del xs l) (del ks (l + 1)) [] 0 W)) := fun W hW => by
    have := cut_any A (some ⟨gR, oR, none⟩) C n c m d 0 e xs ks [] ((l : Int) + 1) (l + 1) W (HN.out.later hW) HM.out (by have := HMN.out; omega) (by omega) (by omega)
    exact this.mono fun x w' h => node_of h LD.out LR.out rfl (by omega)
  have GRAFT : Hid (∀ (A B C : Option Addr) (c d e : Nat) (W : World), Nd W A B C nt c mt d 0 e (del xs l) (del ks (l + 1)) [] → Calls Try.prog 16 #[.agg #[.bool false, .slice A nt c, .slice B mt d, .slice C 0 e], .string key, .int .i64 y] W (NodeEnd false n m 0 xs ks [] 0 W)) := fun A B C c d e W h => by
    have := graft_ok A B C nt c mt d 0 e (del xs l) (del ks (l + 1)) [] key y W h HM2.out HH2.out
    rw [E1.out] at this
    have h2 : Calls Try.prog 16 #[.agg #[.bool false, .slice A nt c, .slice B mt d, .slice C 0 e], .string key, .int .i64 y] W (NdEnd false (ins (del xs l) key l) (ins (del ks (l + 1)) y (l + 1)) [] 0 W) := this
    rw [ins_del xs key HK1.out, ins_del ks y HY.out] at h2
    exact h2.mono fun x w' h => node_of h HKL.out HDL.out rfl (by omega)
  have ix := iindex gR oR m d (l + 1) ((l : Int) + 1) (by omega) hlm
  have w9 : IntKind.i64.wrap ((l : Int) + 1) = (l : Int) + 1 := IntWalk.i64_in _ (by omega)
  clear hl e1 hnt hmt hy hcy
  go_enter Try.func6, Try.ntmps6
  go_wp2_with fail
  refine (large_any false A (some ⟨gR, oR, none⟩) C n c m d 0 e xs _ (HI.out.K.rd.later HB0.out) (by have := HI.out.hn; omega) (by have := HI.out.hm; omega) (by have := HI.out.hk; omega) (fun s hs => by have := HI.out.hs s hs; omega)).mono ?_
  rintro x w1 ⟨rfl, hb⟩
  rw [HL.out]
  have HB1 := Lib.hid (stepB HB0.out hb)
  have b1 := Lib.hid (b0.out.later hb)
  have c1 := b1.out.c4
  clear hb b0 HB0 c0
  go_wp2_with fail
  refine (awake_any _).mono ?_
  rintro x w2 ⟨rfl, hb⟩
  have HB2 := Lib.hid (stepB HB1.out hb)
  have b2 := Lib.hid (b1.out.later hb)
  have c2 := b2.out.c4
  clear hb b1 HB1 c1
  go_wp2_with fail
  refine (May_any false A (some ⟨gR, oR, none⟩) C n c m d 0 e xs _ (HN.out.later HB2.out).K.rd (by have := HN.out.sz; omega) (by have := HN.out.sz; omega) (by have := HN.out.sz; omega)).mono ?_
  rintro x w3 ⟨rfl, hb⟩
  rw [HM.out]
  have HB3 := Lib.hid (stepB HB2.out hb)
  have b3 := Lib.hid (b2.out.later hb)
  have c3 := b3.out.c4
  clear hb b2 HB2 c2
  have N3 : Hid (VarAt w3 w.heap.size false A (some ⟨gR, oR, none⟩) C n c m d 0 e xs ks []) := ⟨b3.out.c4, HN.out.later HB3.out⟩
  have cN3 := N3.out.1
  clear b3 c3
  go_wp2_with fail
  refine (place_c key l true N3.out.2 HM.out HLO.out HH.out).mono ?_
  rintro x w4 ⟨rfl, hb⟩
  have HB4 := Lib.hid (stepB HB3.out hb)
  have N4 := Lib.hid (N3.out.later hb)
  have cN4 := N4.out.1
  clear N3 cN3 HB3
  clear hb
  go_wp2_with fail
  refine (CUT.out _ HB4.out).mono ?_
  rintro x w5 ⟨AP, BP, CP, cP, dP, eP, rfl, hP, hb⟩
  have HB5 := Lib.hid (stepB HB4.out hb)
  have N5 := Lib.hid (N4.out.later hb)
  have cN5 := N5.out.1
  clear N4 cN4 HB4
  clear hb
  go_upto_region 16 with (fail)
  have hbw : Below w5.heap.size w5 (w5.alloc (.cells #[.bool false, .slice AP nt cP, .slice BP mt dP, .slice CP 0 eP] 28)) := (Below.refl _ _).alloc (Nat.le_refl _) _
  have P6 := Lib.hid (VarAt.new (lf := false) hP)
  have HB6 := Lib.hid (stepB HB5.out hbw)
  have N6 := Lib.hid (N5.out.later hbw)
  have cN6 := N6.out.1
  clear N5 cN5 HB5
  clear hbw
  have cP6 := P6.out.1
  try simp only [World.size_alloc] at P6 cP6
  generalize (w5.alloc (.cells #[.bool false, .slice AP nt cP, .slice BP mt dP, .slice CP 0 eP] 28)) = w6 at *
  generalize w5.heap.size = bP at P6 cP6 ⊢
  clear hP
  have K0 : Hid ((SQ3 w w.heap.size bP (.bool false) (.slice A n c) (.slice (some ⟨gR, oR, none⟩) m d) (.slice C 0 e) (.bool false) (.slice AP nt cP) (.slice BP mt dP) (.slice CP 0 eP) gR (oR + (l + 1)) (.int .i64 y)) w6) := ⟨HB6.out, cN6, cP6, (HB6.out.cell (p := ⟨gR, oR + (l + 1), none⟩) hgl).trans HCY.out⟩
  have nP := lt_of_cell cP6.1
  have nN := lt_of_cell cN6.1
  go_region_held3 (SQ3 w w.heap.size bP (.bool false) (.slice A n c) (.slice (some ⟨gR, oR, none⟩) m d) (.slice C 0 e) (.bool false) (.slice AP nt cP) (.slice BP mt dP) (.slice CP 0 eP) gR (oR + (l + 1)) (.int .i64 y)) (repeat (first | with_reducible assumption | with_reducible exact K0.out | with_reducible refine SQ3.drew ?_ | with_reducible refine SQ3.alloc ?_ _ | with_reducible refine SQ3.later ?_ (by with_reducible assumption) | refine SQ3.set4 ?_ (by omega) (by omega) (by omega) (by omega))) (first
    | (go_at_call 16; refine (GRAFT.out _ _ _ _ _ _ _ (P6.out.2.later (show Aft w6 _ by (repeat (first | with_reducible assumption | with_reducible exact Aft.refl _ | with_reducible exact Aft.drewN2 (by with_reducible assumption) _ | with_reducible refine Aft.drew ?_ | with_reducible refine Aft.drewN ?_ _ | with_reducible refine Aft.alloc ?_ _ | with_reducible refine Aft.below ?_ (by with_reducible assumption)))))).mono ?_; rintro x wC ⟨AT, BT, CT, cT, dT, eT, rfl, hT, hb⟩; (try (have lB := L4.later (Blk.l4 (Blk.drewl (Blk.new _ _ 28))) hb))))
  · rename_i hq0
    clear hq0
    have hbb : Below w6.heap.size w6 wC := by show Aft _ _; (repeat (first | with_reducible assumption | with_reducible exact Aft.refl _ | with_reducible exact Aft.drewN2 (by with_reducible assumption) _ | with_reducible refine Aft.drew ?_ | with_reducible refine Aft.drewN ?_ _ | with_reducible refine Aft.alloc ?_ _ | with_reducible refine Aft.below ?_ (by with_reducible assumption)))
    obtain ⟨w7, rfl⟩ : ∃ W : World, W = wC := ⟨_, rfl⟩
    have HB7 := Lib.hid (stepB HB6.out hbb)
    have N7 := Lib.hid (N6.out.later hbb)
    have P7 := Lib.hid (P6.out.later hbb)
    have cN7 := N7.out.1
    have cP7 := P7.out.1
    clear N6 cN6 P6 cP6 HB6
    clear hb hbb K0
    have hbw : Below w7.heap.size w7 (w7.alloc (.cells #[.bool false, .slice AT n cT, .slice BT m dT, .slice CT 0 eT] 28)) := (Below.refl _ _).alloc (Nat.le_refl _) _
    have T8 := Lib.hid (VarAt.new (lf := false) hT)
    have HB8 := Lib.hid (stepB HB7.out hbw)
    have N8 := Lib.hid (N7.out.later hbw)
    have P8 := Lib.hid (P7.out.later hbw)
    have cN8 := N8.out.1
    have cP8 := P8.out.1
    clear N7 cN7 P7 cP7 HB7
    clear hbw
    have cT8 := T8.out.1
    try simp only [World.size_alloc] at T8 cT8
    generalize (w7.alloc (.cells #[.bool false, .slice AT n cT, .slice BT m dT, .slice CT 0 eT] 28)) = w8 at *
    generalize w7.heap.size = bT at T8 cT8 ⊢
    clear hT
    go_wp2_with fail
    refine (may_c true P8.out.2 HM2.out).mono ?_
    rintro x w9 ⟨rfl, hb⟩
    have HB9 := Lib.hid (stepB HB8.out hb)
    have N9 := Lib.hid (N8.out.later hb)
    have P9 := Lib.hid (P8.out.later hb)
    have T9 := Lib.hid (T8.out.later hb)
    have cN9 := N9.out.1
    have cP9 := P9.out.1
    have cT9 := T9.out.1
    clear N8 cN8 P8 cP8 T8 cT8 HB8
    clear hb
    go_wp2_with fail
    refine (same31 false _ _ _ _ _ _ _ _ _ _ _ _ _ _ _ _ _ _ _ T9.out.2 N9.out.2).mono ?_
    rintro x w10 ⟨rfl, hb⟩
    have HB10 := Lib.hid (stepB HB9.out hb)
    have N10 := Lib.hid (N9.out.later hb)
    have P10 := Lib.hid (P9.out.later hb)
    have T10 := Lib.hid (T9.out.later hb)
    have cN10 := N10.out.1
    have cP10 := P10.out.1
    have cT10 := T10.out.1
    clear N9 cN9 P9 cP9 T9 cT9 HB9
    clear hb
    go_wp2
    go_ret
    exact ⟨rfl, HB10.out⟩
  · rename_i hq0
    clear hq0
    have hbb : Below w6.heap.size w6 wC := by show Aft _ _; (repeat (first | with_reducible assumption | with_reducible exact Aft.refl _ | with_reducible exact Aft.drewN2 (by with_reducible assumption) _ | with_reducible refine Aft.drew ?_ | with_reducible refine Aft.drewN ?_ _ | with_reducible refine Aft.alloc ?_ _ | with_reducible refine Aft.below ?_ (by with_reducible assumption)))
    obtain ⟨w7, rfl⟩ : ∃ W : World, W = wC := ⟨_, rfl⟩
    have hBk : Blk w7 w6.heap.size #[.bool false, .slice none 0 0, .slice none 0 0, .slice none 0 0] 28 := (Blk.drewl (Blk.new _ _ 28)).later hb
    have HB7 := Lib.hid (stepB HB6.out hbb)
    have N7 := Lib.hid (N6.out.later hbb)
    have P7 := Lib.hid (P6.out.later hbb)
    have cN7 := N7.out.1
    have cP7 := P7.out.1
    clear N6 cN6 P6 cP6 HB6
    clear hb hbb K0
    have HB8 : Hid (Below w.heap.size w (((((w7).setCell ⟨w6.heap.size, 0, none⟩ (.bool false)).setCell ⟨w6.heap.size, 1, none⟩ (.slice AT n cT)).setCell ⟨w6.heap.size, 2, none⟩ (.slice BT m dT)).setCell ⟨w6.heap.size, 3, none⟩ (.slice CT 0 eT))) := set4 HB7.out (by omega)
    have N8 := Lib.hid (N7.out.set4 hBk rfl rfl rfl rfl (by omega) (.bool false) (.slice AT n cT) (.slice BT m dT) (.slice CT 0 eT))
    have P8 := Lib.hid (P7.out.set4 hBk rfl rfl rfl rfl (by omega) (.bool false) (.slice AT n cT) (.slice BT m dT) (.slice CT 0 eT))
    have T8 : Hid (VarAt (((((w7).setCell ⟨w6.heap.size, 0, none⟩ (.bool false)).setCell ⟨w6.heap.size, 1, none⟩ (.slice AT n cT)).setCell ⟨w6.heap.size, 2, none⟩ (.slice BT m dT)).setCell ⟨w6.heap.size, 3, none⟩ (.slice CT 0 eT)) w6.heap.size false AT BT CT n cT m dT 0 eT xs ks []) := ⟨(blk_set4 hBk).c4, hT.set4 hBk rfl rfl rfl rfl _ _ _ _⟩
    clear hT hBk lB HB7 N7 P7 cN7 cP7
    generalize (((((w7).setCell ⟨w6.heap.size, 0, none⟩ (.bool false)).setCell ⟨w6.heap.size, 1, none⟩ (.slice AT n cT)).setCell ⟨w6.heap.size, 2, none⟩ (.slice BT m dT)).setCell ⟨w6.heap.size, 3, none⟩ (.slice CT 0 eT)) = w8 at *
    generalize w6.heap.size = bT at T8 nP nN ⊢
    have cN8 := N8.out.1
    have cP8 := P8.out.1
    have cT8 := T8.out.1
    go_wp2_with fail
    refine (may_c true P8.out.2 HM2.out).mono ?_
    rintro x w9 ⟨rfl, hb⟩
    have HB9 := Lib.hid (stepB HB8.out hb)
    have N9 := Lib.hid (N8.out.later hb)
    have P9 := Lib.hid (P8.out.later hb)
    have T9 := Lib.hid (T8.out.later hb)
    have cN9 := N9.out.1
    have cP9 := P9.out.1
    have cT9 := T9.out.1
    clear N8 cN8 P8 cP8 T8 cT8 HB8
    clear hb
    go_wp2_with fail
    refine (same31 false _ _ _ _ _ _ _ _ _ _ _ _ _ _ _ _ _ _ _ T9.out.2 N9.out.2).mono ?_
    rintro x w10 ⟨rfl, hb⟩
    have HB10 := Lib.hid (stepB HB9.out hb)
    have N10 := Lib.hid (N9.out.later hb)
    have P10 := Lib.hid (P9.out.later hb)
    have T10 := Lib.hid (T9.out.later hb)
    have cN10 := N10.out.1
    have cP10 := P10.out.1
    have cT10 := T10.out.1
    clear N9 cN9 P9 cP9 T9 cT9 HB9
    clear hb
    go_wp2
    go_ret
    exact ⟨rfl, HB10.out⟩
theorem w_main (lf : Bool) (A B C : Option Addr) (n c m d k e : Nat) (xs : List ByteArray) (ks rs : List Int) (key : ByteArray) (row kid : Int) (w : World) (hI : NdIn w A B C n c m d k e xs ks rs) (hL : largeB xs m k = false) (hk : ¬ 3000 < key.size) (hM : mayB lf xs m k = true) : Calls Try.prog 6 #[.agg #[.bool lf, .slice A n c, .slice B m d, .slice C k e], .string key, .int .u64 row, .int .i64 kid] w (fun e w' => e = .returned (.bool true) ∧ Below w.heap.size w w') := by
  have ht := may_true hM
  cases lf
  · rw [if_neg (by decide)] at ht
    obtain ⟨_, h0⟩ := ht
    subst h0
    obtain rfl : rs = [] := List.eq_nil_of_length_eq_zero hI.R.len
    cases hH : hasB xs key
    · exact b_inner_not A B C n c m d e xs ks key row kid w hI hL hk hM hH
    · exact b_inner_has A B C n c m d e xs ks key row kid w hI hL hk hM hH
  · rw [if_pos rfl] at ht
    obtain ⟨h1, h0⟩ := ht
    obtain rfl : k = n := h1.trans hI.K.len
    subst h0
    obtain rfl : ks = [] := List.eq_nil_of_length_eq_zero hI.D.len
    cases hH : hasB xs key
    · exact b_leaf_not A B C k c d e xs rs key row kid w hI hL hk hM hH
    · exact b_leaf_has A B C k c d e xs rs key row kid w hI hL hk hM hH
theorem walk (lf : Bool) (A B C : Option Addr) (n c m d k e : Nat) (xs : List ByteArray) (ks rs : List Int) (key : ByteArray) (row kid : Int) (w : World) (hI : NdIn w A B C n c m d k e xs ks rs) : Calls Try.prog 6 #[.agg #[.bool lf, .slice A n c, .slice B m d, .slice C k e], .string key, .int .u64 row, .int .i64 kid] w (fun e w' => e = .returned (.bool true) ∧ Below w.heap.size w w') := by
  cases hL : largeB xs m k
  · by_cases hk : 3000 < key.size
    · exact w_long lf A B C n c m d k e xs ks rs key row kid w hI hL hk
    · cases hM : mayB lf xs m k
      · exact w_wrong lf A B C n c m d k e xs ks rs key row kid w hI hL hk hM
      · exact w_main lf A B C n c m d k e xs ks rs key row kid w hI hL hk hM
  · exact w_large lf A B C n c m d k e xs ks rs key row kid w hI hL


set_option maxRecDepth 100000 in
theorem lifted (os : Os) (started : os.Started) (H : Type) (enc : TypeId × Value → H) :
    ReturnsInHanded {} Try.checked os 6 .any (Rows.forkBackSpec.pre6 enc Try.prog Try.f6 Rows.forkBackRow.domain false) (Rows.forkBackSpec.post enc Try.prog Try.f6 false true false false) := by
  refine returnsInHanded_of_change_sized (C := Try.checked) own started (by kernel_rfl) Try.func6
    (ChangeSpec.witness6 (enc := enc) (C := Try.checked) false ⟨#[], #[.agg #[.bool false, .slice none 0 0, .slice none 0 0, .slice none 0 0], .string ⟨#[]⟩, .int .u64 0, .int .i64 0], []⟩ 8 (by kernel_rfl) (by kernel_rfl) (by kernel_rfl) (by kernel_rfl)) ?_
  intro W base args ds gs before hval0 hW _ hsz _
  have hval : ∀ (j : Nat) t v, Try.f6.params[j]? = some t → args[j]? = some v → Value.okWide Try.prog W .any base t v := hval0
  have hW' := hW
  obtain ⟨p, q, hA0, hV, hbef, _, _⟩ := hW
  have hA : DataW.TrodAll enc Try.prog W 0 (fun _ => true) true Try.f6.params.toList args.toList ds p := hA0
  rw [Try.params6] at hA hval
  obtain ⟨v0, vs0, d0, ds0, p0, q0, hargs, rfl, rfl, h0, r0⟩ := trodAll_cons hA
  obtain ⟨v1, vs1, d1, ds1, p1, q1, rfl, rfl, rfl, h1, r1⟩ := trodAll_cons r0
  obtain ⟨v2, vs2, d2, ds2, p2, q2, rfl, rfl, rfl, h2, r2⟩ := trodAll_cons r1
  obtain ⟨v3, vs3, d3, ds3, p3, q3, rfl, rfl, rfl, h3, r3⟩ := trodAll_cons r2
  obtain ⟨rfl, rfl, rfl⟩ := trodAll_nil r3
  obtain rfl : args = #[v0, v1, v2, v3] := by cases args; simp_all
  obtain ⟨rfl, rfl⟩ := trodVars_none hV
  obtain ⟨lf0, A0, B0, C0, n0, c0, m0, d0_, k0, e0, xs0, ks0, rs0, rfl, nn0⟩ := open_node (hval 0 28 v0 rfl rfl) h0 (weight_at (ts := Try.f6.params.toList) hsz (j := 0) (by rw [Try.params6]; rfl) rfl)
  obtain ⟨s1, rfl, _, _, w1⟩ := open_string Try.underlying9 (hval 1 9 v1 rfl rfl) h1
  obtain ⟨a2, rfl, _, _, w2⟩ := open_int Try.underlying24 (hval 2 24 v2 rfl rfl) h2
  obtain ⟨a3, rfl, _, _, w3⟩ := open_int Try.underlying3 (hval 3 3 v3 rfl rfl) h3
  refine (walk lf0 A0 B0 C0 n0 c0 m0 d0_ k0 e0 xs0 ks0 rs0 s1 a2 a3 W nn0).mono fun e W' ⟨he, hb⟩ => ?_
  subst he
  exact ⟨_, rfl, law_post laidOut (of_decide_eq_true (by kernel_rfl)) rfl Try.underlying4 rfl rfl hW' hb⟩

theorem over : Rows.forkBackRow.holds Try.pinned (OpenSpec.ofChange Rows.forkBackSpec) :=
  OpenClaim.holds_of_wide 6 Try.f6 rfl rfl rfl rfl rfl rfl rfl ⟨rfl, rfl, rfl, rfl, rfl⟩ rfl rfl rfl rfl rfl (by kernel_rfl) Try.func6 (by kernel_rfl)
    (of_decide_eq_true (by kernel_rfl)) (by unfold Func.isWrapper; first | (rw [if_pos (by decide +kernel)]; kernel_rfl) | (rw [if_neg (by decide +kernel)]; exact ⟨rfl, rfl⟩))
    (fun os started H enc _ => lifted os started H enc)

end Go.Proofs.Ytiojjpmkiljngaa.forkBack
namespace Go.Proofs.Ytiojjpmkiljngaa
theorem forkBack_holds : Rows.ForkBackSaid := forkBack.over
end Go.Proofs.Ytiojjpmkiljngaa
