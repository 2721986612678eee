/-
A node that is safe has, behind one Put, or Graft, fan keys at most; behind one Take, or Cut, something left. For every node, key, fan, kid, root or not.
-/
import Derived.Test.YtiojjpmkiljngaaL
import Derived.Test.YtiojjpmkiljngaaM
import Derived.Test.YtiojjpmkiljngaaG
import Derived.Test.YtiojjpmkiljngaaN
namespace Go.Proofs.Ytiojjpmkiljngaa.forkSafe
open Go.ChangeShapes Go.WideShapes Go.ChangeAt Go.RowKit Go.ChangeMaps
set_option linter.unusedVariables false
set_option linter.unusedSimpArgs false

theorem own : ownKnob Try.prog.godebug = none := by kernel_rfl
theorem laidOut : laidOutB Try.prog = true := by kernel_rfl

set_option maxRecDepth 100000 in
set_option maxHeartbeats 4000000 in
theorem w_large (lf : Bool) (A B C : Option Addr) (n c m d k e : Nat) (xs : List ByteArray) (ks rs : List Int) (key : ByteArray) (fan kid : Int) (root : Bool) (w : World) (hI : NdIn w A B C n c m d k e xs ks rs) (hL : largeB xs m k = true) : Calls Try.prog 8 #[.agg #[.bool lf, .slice A n c, .slice B m d, .slice C k e], .string key, .int .i64 fan, .int .i64 kid, .bool root] w (fun e w' => e = .returned (.bool true) ∧ Below w.heap.size w w') := by
  have hb0 : Below w.heap.size w (w.alloc (.cells #[.bool lf, .slice A n c, .slice B m d, .slice C k e] 28)) := (Below.refl _ _).alloc (Nat.le_refl _) _
  have b0 := Lib.hid (Blk.new w #[.bool lf, .slice A n c, .slice B m d, .slice C k e] 28)
  have c0 := b0.out.c4
  have HB0 := Lib.hid hb0
  have HI := Lib.hid hI
  have HL := Lib.hid hL
  clear hb0 hI hL
  go_enter Try.func8, Try.ntmps8
  go_wp2_with fail
  refine (large_any lf A B C n c m d k e xs _ (HI.out.K.rd.later HB0.out) (by have := HI.out.hn; omega) (by have := HI.out.hm; omega) (by have := HI.out.hk; omega) (fun s hs => by have := HI.out.hs s hs; omega)).mono ?_
  rintro x w1 ⟨rfl, hb⟩
  rw [HL.out]
  have HB1 := Lib.hid (stepB HB0.out hb)
  have b1 := Lib.hid (b0.out.later hb)
  have c1 := b1.out.c4
  clear hb b0 HB0 c0
  go_wp2_with fail
  refine (awake_any _).mono ?_
  rintro x w2 ⟨rfl, hb⟩
  have HB2 := Lib.hid (stepB HB1.out hb)
  have b2 := Lib.hid (b1.out.later hb)
  have c2 := b2.out.c4
  clear hb b1 HB1 c1
  go_wp2
  go_ret
  exact ⟨rfl, HB2.out⟩
set_option maxRecDepth 100000 in
set_option maxHeartbeats 4000000 in
theorem w_long (lf : Bool) (A B C : Option Addr) (n c m d k e : Nat) (xs : List ByteArray) (ks rs : List Int) (key : ByteArray) (fan kid : Int) (root : Bool) (w : World) (hI : NdIn w A B C n c m d k e xs ks rs) (hL : largeB xs m k = false) (hk : 3000 < key.size) : Calls Try.prog 8 #[.agg #[.bool lf, .slice A n c, .slice B m d, .slice C k e], .string key, .int .i64 fan, .int .i64 kid, .bool root] w (fun e w' => e = .returned (.bool true) ∧ Below w.heap.size w w') := by
  have hb0 : Below w.heap.size w (w.alloc (.cells #[.bool lf, .slice A n c, .slice B m d, .slice C k e] 28)) := (Below.refl _ _).alloc (Nat.le_refl _) _
  have b0 := Lib.hid (Blk.new w #[.bool lf, .slice A n c, .slice B m d, .slice C k e] 28)
  have c0 := b0.out.c4
  have HB0 := Lib.hid hb0
  have HI := Lib.hid hI
  have HL := Lib.hid hL
  have d1 : decide ((3000 : Int) < (key.size : Int)) = true := decide_eq_true (by omega)
  clear hb0 hI hL hk
  go_enter Try.func8, Try.ntmps8
  go_wp2_with fail
  refine (large_any lf A B C n c m d k e xs _ (HI.out.K.rd.later HB0.out) (by have := HI.out.hn; omega) (by have := HI.out.hm; omega) (by have := HI.out.hk; omega) (fun s hs => by have := HI.out.hs s hs; omega)).mono ?_
  rintro x w1 ⟨rfl, hb⟩
  rw [HL.out]
  have HB1 := Lib.hid (stepB HB0.out hb)
  have b1 := Lib.hid (b0.out.later hb)
  have c1 := b1.out.c4
  clear hb b0 HB0 c0
  go_wp2_with fail
  refine (awake_any _).mono ?_
  rintro x w2 ⟨rfl, hb⟩
  have HB2 := Lib.hid (stepB HB1.out hb)
  have b2 := Lib.hid (b1.out.later hb)
  have c2 := b2.out.c4
  clear hb b1 HB1 c1
  go_wp2
  go_ret
  exact ⟨rfl, HB2.out⟩
set_option maxRecDepth 100000 in
set_option maxHeartbeats 4000000 in
theorem w_wrong (lf : Bool) (A B C : Option Addr) (n c m d k e : Nat) (xs : List ByteArray) (ks rs : List Int) (key : ByteArray) (fan kid : Int) (root : Bool) (w : World) (hI : NdIn w A B C n c m d k e xs ks rs) (hL : largeB xs m k = false) (hk : ¬ 3000 < key.size) (hM : mayB lf xs m k = false) : Calls Try.prog 8 #[.agg #[.bool lf, .slice A n c, .slice B m d, .slice C k e], .string key, .int .i64 fan, .int .i64 kid, .bool root] w (fun e w' => e = .returned (.bool true) ∧ Below w.heap.size w w') := by
  have hb0 : Below w.heap.size w (w.alloc (.cells #[.bool lf, .slice A n c, .slice B m d, .slice C k e] 28)) := (Below.refl _ _).alloc (Nat.le_refl _) _
  have b0 := Lib.hid (Blk.new w #[.bool lf, .slice A n c, .slice B m d, .slice C k e] 28)
  have c0 := b0.out.c4
  have HB0 := Lib.hid hb0
  have HN : Hid (Nd w A B C n c m d k e xs ks rs) := ⟨hI.K, hI.D, hI.R, by have h1 := large_no hL; have h2 := wide_len xs; have h3 := hI.K.len; omega⟩
  have HI := Lib.hid hI
  have HL := Lib.hid hL
  have d1 : decide ((3000 : Int) < (key.size : Int)) = false := decide_eq_false (by omega)
  have HM := Lib.hid hM
  clear hb0 hI hL hk hM
  go_enter Try.func8, Try.ntmps8
  go_wp2_with fail
  refine (large_any lf A B C n c m d k e xs _ (HI.out.K.rd.later HB0.out) (by have := HI.out.hn; omega) (by have := HI.out.hm; omega) (by have := HI.out.hk; omega) (fun s hs => by have := HI.out.hs s hs; omega)).mono ?_
  rintro x w1 ⟨rfl, hb⟩
  rw [HL.out]
  have HB1 := Lib.hid (stepB HB0.out hb)
  have b1 := Lib.hid (b0.out.later hb)
  have c1 := b1.out.c4
  clear hb b0 HB0 c0
  go_wp2_with fail
  refine (awake_any _).mono ?_
  rintro x w2 ⟨rfl, hb⟩
  have HB2 := Lib.hid (stepB HB1.out hb)
  have b2 := Lib.hid (b1.out.later hb)
  have c2 := b2.out.c4
  clear hb b1 HB1 c1
  go_wp2_with fail
  refine (May_any lf A B C n c m d k e xs _ (HN.out.later HB2.out).K.rd (by have := HN.out.sz; omega) (by have := HN.out.sz; omega) (by have := HN.out.sz; omega)).mono ?_
  rintro x w3 ⟨rfl, hb⟩
  rw [HM.out]
  have HB3 := Lib.hid (stepB HB2.out hb)
  have b3 := Lib.hid (b2.out.later hb)
  have c3 := b3.out.c4
  clear hb b2 HB2 c2
  go_wp2_with fail
  refine (awake_any _).mono ?_
  rintro x w4 ⟨rfl, hb⟩
  have HB4 := Lib.hid (stepB HB3.out hb)
  have b4 := Lib.hid (b3.out.later hb)
  have c4 := b4.out.c4
  clear hb b3 HB3 c3
  go_wp2
  go_ret
  exact ⟨rfl, HB4.out⟩
theorem len_put {α : Type} (xs : List α) (y : α) {l n : Nat} (h : xs.length = n) (hl : l ≤ n) : (xs.take l ++ ([y] ++ xs.drop l)).length = n + 1 := by simp; omega
theorem len_cut {α : Type} (xs : List α) {l n n' : Nat} (h : xs.length = n) (hl : l < n) (hn : n = n' + 1) : (xs.take l ++ ([] ++ xs.drop (l + 1))).length = n' := by simp; omega
abbrev SQ (w : World) (g h : Nat) (a b c d a' b' c' d' : Value) (W : World) : Prop := Aft w W ∧ C4 W g a b c d ∧ C4 W h a' b' c' d'
theorem SQ.later {w W W' : World} {g h : Nat} {a b c d a' b' c' d' : Value} (s : SQ w g h a b c d a' b' c' d' W) (hb : Below W.heap.size W W') : SQ w g h a b c d a' b' c' d' W' := ⟨Aft.below s.1 hb, s.2.1.later hb, s.2.2.later hb⟩
theorem SQ.drew {w W : World} {g h : Nat} {a b c d a' b' c' d' : Value} (s : SQ w g h a b c d a' b' c' d' W) : SQ w g h a b c d a' b' c' d' W.drew := ⟨Below.drew s.1, s.2⟩
set_option maxRecDepth 100000 in
set_option maxHeartbeats 4000000 in
theorem m_true_not (A B C : Option Addr) (n c m d k e : Nat) (xs : List ByteArray) (ks rs : List Int) (key : ByteArray) (fan kid : Int) (root : Bool) (w : World) (hI : NdIn w A B C n c m d k e xs ks rs) (hL : largeB xs m k = false) (hk : ¬ 3000 < key.size) (hM : mayB true xs m k = true) (hH : hasB xs key = false) : Calls Try.prog 8 #[.agg #[.bool true, .slice A n c, .slice B m d, .slice C k e], .string key, .int .i64 fan, .int .i64 kid, .bool root] w (fun e w' => e = .returned (.bool true) ∧ Below w.heap.size w w') := by
  have hb0 : Below w.heap.size w (w.alloc (.cells #[.bool true, .slice A n c, .slice B m d, .slice C k e] 28)) := (Below.refl _ _).alloc (Nat.le_refl _) _
  have b0 := Lib.hid (Blk.new w #[.bool true, .slice A n c, .slice B m d, .slice C k e] 28)
  have c0 := b0.out.c4
  have HB0 := Lib.hid hb0
  have HN : Hid (Nd w A B C n c m d k e xs ks rs) := ⟨hI.K, hI.D, hI.R, by have h1 := large_no hL; have h2 := wide_len xs; have h3 := hI.K.len; omega⟩
  have HI := Lib.hid hI
  have HL := Lib.hid hL
  have d1 : decide ((3000 : Int) < (key.size : Int)) = false := decide_eq_false (by omega)
  have HM := Lib.hid hM
  clear hb0 hI hL hk hM
  have HH := Lib.hid hH
  have HT := Lib.hid (may_true HM.out)
  have hz : n + m + k < 3000 := by have h1 := large_no HL.out; have h2 := wide_len xs; have h3 := HN.out.K.len; omega
  have hln := low_le xs key
  rw [HN.out.K.len] at hln
  have HLN := Lib.hid hln
  have HKL := Lib.hid HN.out.K.len
  have hnk : k = n := by have h := HT.out; rw [if_pos rfl] at h; have := HKL.out; omega
  have HNK := Lib.hid hnk
  clear hH hln hnk
  obtain ⟨bf, hbf⟩ : ∃ bf, decide ((n : Int) < fan) = bf := ⟨_, rfl⟩
  have e1 : decide ((n : Int) + 1 ≤ fan) = bf := by rw [← hbf, decide_eq_decide]; omega
  obtain ⟨v, hv⟩ : ∃ v, safeB true n m fan 2 root = v := ⟨_, rfl⟩
  have HS1 : Hid (∀ W, Calls Try.prog 19 #[.agg #[.bool true, .slice A n c, .slice B m d, .slice C k e], .int .i64 fan, .int .u8 1, .bool root] W (SafeEnd bf W)) := fun W => by
    have := Safe_any true A B C n c m d k e fan 1 root W (by omega) (by omega)
    rw [show safeB true n m fan 1 root = bf from hbf] at this; exact this
  have HS2 : Hid (∀ W, Calls Try.prog 19 #[.agg #[.bool true, .slice A n c, .slice B m d, .slice C k e], .int .i64 fan, .int .u8 2, .bool root] W (SafeEnd v W)) := fun W => by
    have := Safe_any true A B C n c m d k e fan 2 root W (by omega) (by omega)
    rw [hv] at this; exact this
  have HV := Lib.hid hv
  have HBF := Lib.hid hbf
  clear hv hbf
  go_enter Try.func8, Try.ntmps8
  go_wp2_with fail
  refine (large_any true A B C n c m d k e xs _ (HI.out.K.rd.later HB0.out) (by have := HI.out.hn; omega) (by have := HI.out.hm; omega) (by have := HI.out.hk; omega) (fun s hs => by have := HI.out.hs s hs; omega)).mono ?_
  rintro x w1 ⟨rfl, hb⟩
  rw [HL.out]
  have HB1 := Lib.hid (stepB HB0.out hb)
  have b1 := Lib.hid (b0.out.later hb)
  have c1 := b1.out.c4
  clear hb b0 HB0 c0
  go_wp2_with fail
  refine (awake_any _).mono ?_
  rintro x w2 ⟨rfl, hb⟩
  have HB2 := Lib.hid (stepB HB1.out hb)
  have b2 := Lib.hid (b1.out.later hb)
  have c2 := b2.out.c4
  clear hb b1 HB1 c1
  go_wp2_with fail
  refine (May_any true A B C n c m d k e xs _ (HN.out.later HB2.out).K.rd (by have := HN.out.sz; omega) (by have := HN.out.sz; omega) (by have := HN.out.sz; omega)).mono ?_
  rintro x w3 ⟨rfl, hb⟩
  rw [HM.out]
  have HB3 := Lib.hid (stepB HB2.out hb)
  have b3 := Lib.hid (b2.out.later hb)
  have cb3 := b3.out.c4
  clear hb b2 HB2 c2
  go_wp2_with fail
  refine ((put_ok A B C n c m d k e xs ks rs key 1 _ (HN.out.later HB3.out) HM.out HH.out).mono (fun x w' h => node_of h (n := n + 1) (m := 0) (k := k + 1) (len_put _ _ HKL.out HLN.out) rfl (len_put _ _ HN.out.R.len (by have := HNK.out; have := HLN.out; omega)) (by omega))).mono ?_
  rintro x w4 ⟨AP, BP, CP, cP, dP, eP, rfl, hP, hb⟩
  have HB4 := Lib.hid (stepB HB3.out hb)
  have b4 := Lib.hid (b3.out.later hb)
  have cb4 := b4.out.c4
  clear b3 cb3 HB3
  clear hb
  clear hP
  go_upto_region 4 with (fail)
  have HB5 : Hid (Below w.heap.size w (w4.alloc (.cells #[.bool true, .slice AP (n + 1) cP, .slice BP 0 dP, .slice CP (k + 1) eP] 28))) := HB4.out.alloc HB4.out.size _
  have b5 := Lib.hid (b4.out.alloc (.cells #[.bool true, .slice AP (n + 1) cP, .slice BP 0 dP, .slice CP (k + 1) eP] 28))
  have a5 := Lib.hid (Blk.new w4 #[.bool true, .slice AP (n + 1) cP, .slice BP 0 dP, .slice CP (k + 1) eP] 28)
  have na : w.heap.size < w4.heap.size := b4.out.lt
  clear b4 cb4 HB4
  generalize (w4.alloc (.cells #[.bool true, .slice AP (n + 1) cP, .slice BP 0 dP, .slice CP (k + 1) eP] 28)) = w5 at *
  generalize w4.heap.size = Ba at a5 na  ⊢
  have cb5 := b5.out.c4
  have ca5 := a5.out.c4
  have K0 : Hid ((SQ w w.heap.size Ba (.bool true) (.slice A n c) (.slice B m d) (.slice C k e) (.bool true) (.slice AP (n + 1) cP) (.slice BP 0 dP) (.slice CP (k + 1) eP)) w5) := ⟨HB5.out, cb5, ca5⟩
  go_wp2_with fail
  go_region_held3 (SQ w w.heap.size Ba (.bool true) (.slice A n c) (.slice B m d) (.slice C k e) (.bool true) (.slice AP (n + 1) cP) (.slice BP 0 dP) (.slice CP (k + 1) eP)) (repeat (first | with_reducible assumption | with_reducible exact K0.out | with_reducible refine SQ.drew ?_ | with_reducible refine SQ.later ?_ (by with_reducible assumption))) (first
    | (go_at_call 19; refine (HS1.out _).mono ?_; rintro x wS ⟨rfl, hb⟩))
  have hbb : Below w5.heap.size w5 wS := by show Aft _ _; (repeat (first | with_reducible assumption | with_reducible exact Aft.refl _ | with_reducible refine Aft.drew ?_ | with_reducible refine Aft.below ?_ (by with_reducible assumption)))
  rename_i hq0
  clear hq0
  obtain ⟨w6, hw6⟩ : ∃ W, W = wS := ⟨_, rfl⟩
  rw [← hw6] at hbb ⊢
  have HB6 := Lib.hid (stepB HB5.out hbb)
  have b6 := Lib.hid (b5.out.later hbb)
  have a6 := Lib.hid (a5.out.later hbb)
  have cb6 := b6.out.c4
  have ca6 := a6.out.c4
  clear b5 cb5 a5 ca5 HB5
  clear hbb hb hw6 K0
  go_wp2_with fail
  refine (HS2.out _).mono ?_
  rintro x w7 ⟨rfl, hb⟩
  have HB7 := Lib.hid (stepB HB6.out hb)
  have b7 := Lib.hid (b6.out.later hb)
  have a7 := Lib.hid (a6.out.later hb)
  have cb7 := b7.out.c4
  have ca7 := a7.out.c4
  clear b6 cb6 a6 ca6 HB6
  clear hb
  go_wp2_with fail
  refine ((take_none A B C n c m d k e xs ks rs key _ (HN.out.later HB7.out) HM.out HH.out).mono (fun x w' h => node_of h (n := 0) (m := 0) (k := 0) rfl rfl rfl (by omega))).mono ?_
  rintro x w8 ⟨AT, BT, CT, cT, dT, eT, rfl, hP, hb⟩
  have HB8 := Lib.hid (stepB HB7.out hb)
  have b8 := Lib.hid (b7.out.later hb)
  have a8 := Lib.hid (a7.out.later hb)
  have cb8 := b8.out.c4
  have ca8 := a8.out.c4
  clear b7 cb7 a7 ca7 HB7
  clear hb
  clear hP
  go_wp2
  go_ret
  exact ⟨rfl, HB8.out.alloc HB8.out.size _⟩
set_option maxRecDepth 100000 in
set_option maxHeartbeats 4000000 in
theorem m_true_has_true (A B C : Option Addr) (n c m d k e : Nat) (xs : List ByteArray) (ks rs : List Int) (key : ByteArray) (fan kid : Int) (w : World) (hI : NdIn w A B C n c m d k e xs ks rs) (hL : largeB xs m k = false) (hk : ¬ 3000 < key.size) (hM : mayB true xs m k = true) (hH : hasB xs key = true) : Calls Try.prog 8 #[.agg #[.bool true, .slice A n c, .slice B m d, .slice C k e], .string key, .int .i64 fan, .int .i64 kid, .bool true] w (fun e w' => e = .returned (.bool true) ∧ Below w.heap.size w w') := by
  have hb0 : Below w.heap.size w (w.alloc (.cells #[.bool true, .slice A n c, .slice B m d, .slice C k e] 28)) := (Below.refl _ _).alloc (Nat.le_refl _) _
  have b0 := Lib.hid (Blk.new w #[.bool true, .slice A n c, .slice B m d, .slice C k e] 28)
  have c0 := b0.out.c4
  have HB0 := Lib.hid hb0
  have HN : Hid (Nd w A B C n c m d k e xs ks rs) := ⟨hI.K, hI.D, hI.R, by have h1 := large_no hL; have h2 := wide_len xs; have h3 := hI.K.len; omega⟩
  have HI := Lib.hid hI
  have HL := Lib.hid hL
  have d1 : decide ((3000 : Int) < (key.size : Int)) = false := decide_eq_false (by omega)
  have HM := Lib.hid hM
  clear hb0 hI hL hk hM
  have HH := Lib.hid hH
  have HT := Lib.hid (may_true HM.out)
  have hz : n + m + k < 3000 := by have h1 := large_no HL.out; have h2 := wide_len xs; have h3 := HN.out.K.len; omega
  have hln := low_le xs key
  rw [HN.out.K.len] at hln
  have HLN := Lib.hid hln
  have HKL := Lib.hid HN.out.K.len
  have hnk : k = n := by have h := HT.out; rw [if_pos rfl] at h; have := HKL.out; omega
  have HNK := Lib.hid hnk
  clear hH hln hnk
  obtain ⟨bf, hbf⟩ : ∃ bf, decide ((n : Int) < fan) = bf := ⟨_, rfl⟩
  have e1 : decide ((n : Int) + 1 ≤ fan) = bf := by rw [← hbf, decide_eq_decide]; omega
  obtain ⟨v, hv⟩ : ∃ v, safeB true n m fan 2 true = v := ⟨_, rfl⟩
  have HS1 : Hid (∀ W, Calls Try.prog 19 #[.agg #[.bool true, .slice A n c, .slice B m d, .slice C k e], .int .i64 fan, .int .u8 1, .bool true] W (SafeEnd bf W)) := fun W => by
    have := Safe_any true A B C n c m d k e fan 1 true W (by omega) (by omega)
    rw [show safeB true n m fan 1 true = bf from hbf] at this; exact this
  have HS2 : Hid (∀ W, Calls Try.prog 19 #[.agg #[.bool true, .slice A n c, .slice B m d, .slice C k e], .int .i64 fan, .int .u8 2, .bool true] W (SafeEnd v W)) := fun W => by
    have := Safe_any true A B C n c m d k e fan 2 true W (by omega) (by omega)
    rw [hv] at this; exact this
  have HV := Lib.hid hv
  have HBF := Lib.hid hbf
  clear hv hbf
  go_enter Try.func8, Try.ntmps8
  go_wp2_with fail
  refine (large_any true A B C n c m d k e xs _ (HI.out.K.rd.later HB0.out) (by have := HI.out.hn; omega) (by have := HI.out.hm; omega) (by have := HI.out.hk; omega) (fun s hs => by have := HI.out.hs s hs; omega)).mono ?_
  rintro x w1 ⟨rfl, hb⟩
  rw [HL.out]
  have HB1 := Lib.hid (stepB HB0.out hb)
  have b1 := Lib.hid (b0.out.later hb)
  have c1 := b1.out.c4
  clear hb b0 HB0 c0
  go_wp2_with fail
  refine (awake_any _).mono ?_
  rintro x w2 ⟨rfl, hb⟩
  have HB2 := Lib.hid (stepB HB1.out hb)
  have b2 := Lib.hid (b1.out.later hb)
  have c2 := b2.out.c4
  clear hb b1 HB1 c1
  go_wp2_with fail
  refine (May_any true A B C n c m d k e xs _ (HN.out.later HB2.out).K.rd (by have := HN.out.sz; omega) (by have := HN.out.sz; omega) (by have := HN.out.sz; omega)).mono ?_
  rintro x w3 ⟨rfl, hb⟩
  rw [HM.out]
  have HB3 := Lib.hid (stepB HB2.out hb)
  have b3 := Lib.hid (b2.out.later hb)
  have cb3 := b3.out.c4
  clear hb b2 HB2 c2
  go_wp2_with fail
  refine ((put_twice A B C n c m d k e xs ks rs key 1 _ (HN.out.later HB3.out) HM.out HH.out).mono (fun x w' h => node_of h (n := 0) (m := 0) (k := 0) rfl rfl rfl (by omega))).mono ?_
  rintro x w4 ⟨AP, BP, CP, cP, dP, eP, rfl, hP, hb⟩
  have HB4 := Lib.hid (stepB HB3.out hb)
  have b4 := Lib.hid (b3.out.later hb)
  have cb4 := b4.out.c4
  clear b3 cb3 HB3
  clear hb
  clear hP
  go_upto_region 4 with (fail)
  have HB5 : Hid (Below w.heap.size w (w4.alloc (.cells #[.bool false, .slice AP 0 cP, .slice BP 0 dP, .slice CP 0 eP] 28))) := HB4.out.alloc HB4.out.size _
  have b5 := Lib.hid (b4.out.alloc (.cells #[.bool false, .slice AP 0 cP, .slice BP 0 dP, .slice CP 0 eP] 28))
  have a5 := Lib.hid (Blk.new w4 #[.bool false, .slice AP 0 cP, .slice BP 0 dP, .slice CP 0 eP] 28)
  have na : w.heap.size < w4.heap.size := b4.out.lt
  clear b4 cb4 HB4
  generalize (w4.alloc (.cells #[.bool false, .slice AP 0 cP, .slice BP 0 dP, .slice CP 0 eP] 28)) = w5 at *
  generalize w4.heap.size = Ba at a5 na  ⊢
  have cb5 := b5.out.c4
  have ca5 := a5.out.c4
  go_wp2_with fail
  go_quiet (fail)
  obtain ⟨w6, hw6⟩ : ∃ W, W = w5.drewN nq := ⟨_, rfl⟩
  have hb : Below w5.heap.size w5 w6 := by rw [hw6]; exact below_drewN (Below.refl _ _) _
  rw [← hw6]
  have HB6 := Lib.hid (stepB HB5.out hb)
  have b6 := Lib.hid (b5.out.later hb)
  have a6 := Lib.hid (a5.out.later hb)
  have cb6 := b6.out.c4
  have ca6 := a6.out.c4
  clear b5 cb5 a5 ca5 HB5
  clear hb hw6
  go_wp2_with fail
  refine (HS2.out _).mono ?_
  rintro x w7 ⟨rfl, hb⟩
  have HB7 := Lib.hid (stepB HB6.out hb)
  have b7 := Lib.hid (b6.out.later hb)
  have a7 := Lib.hid (a6.out.later hb)
  have cb7 := b7.out.c4
  have ca7 := a7.out.c4
  clear b6 cb6 a6 ca6 HB6
  clear hb
  obtain ⟨nt, hnt⟩ : ∃ nt, n = nt + 1 := ⟨n - 1, by have h := has_lt HH.out; rw [HKL.out] at h; omega⟩
  have HNT := Lib.hid hnt
  have hvv : v = true := by rw [← HV.out]; rfl
  subst hvv
  clear hnt
  go_wp2_with fail
  refine ((take_ok A B C n c m d k e xs ks rs key _ (HN.out.later HB7.out) HM.out HH.out).mono (fun x w' h => node_of h (n := nt) (m := 0) (k := nt) (len_cut _ HKL.out (by have h := has_lt HH.out; rwa [HKL.out] at h) HNT.out) rfl (len_cut _ HN.out.R.len (by have h := has_lt HH.out; rw [HKL.out] at h; have := HNK.out; omega) (by have := HNK.out; have := HNT.out; omega)) (by have := HNT.out; omega))).mono ?_
  rintro x w8 ⟨AT, BT, CT, cT, dT, eT, rfl, hP, hb⟩
  have HB8 := Lib.hid (stepB HB7.out hb)
  have b8 := Lib.hid (b7.out.later hb)
  have a8 := Lib.hid (a7.out.later hb)
  have cb8 := b8.out.c4
  have ca8 := a8.out.c4
  clear b7 cb7 a7 ca7 HB7
  clear hb
  clear hP
  go_wp2
  go_ret
  exact ⟨rfl, HB8.out.alloc HB8.out.size _⟩
set_option maxRecDepth 100000 in
set_option maxHeartbeats 4000000 in
theorem m_true_has_false (A B C : Option Addr) (n c m d k e : Nat) (xs : List ByteArray) (ks rs : List Int) (key : ByteArray) (fan kid : Int)  (w : World) (hI : NdIn w A B C n c m d k e xs ks rs) (hL : largeB xs m k = false) (hk : ¬ 3000 < key.size) (hM : mayB true xs m k = true) (hH : hasB xs key = true) : Calls Try.prog 8 #[.agg #[.bool true, .slice A n c, .slice B m d, .slice C k e], .string key, .int .i64 fan, .int .i64 kid, .bool false] w (fun e w' => e = .returned (.bool true) ∧ Below w.heap.size w w') := by
  have hb0 : Below w.heap.size w (w.alloc (.cells #[.bool true, .slice A n c, .slice B m d, .slice C k e] 28)) := (Below.refl _ _).alloc (Nat.le_refl _) _
  have b0 := Lib.hid (Blk.new w #[.bool true, .slice A n c, .slice B m d, .slice C k e] 28)
  have c0 := b0.out.c4
  have HB0 := Lib.hid hb0
  have HN : Hid (Nd w A B C n c m d k e xs ks rs) := ⟨hI.K, hI.D, hI.R, by have h1 := large_no hL; have h2 := wide_len xs; have h3 := hI.K.len; omega⟩
  have HI := Lib.hid hI
  have HL := Lib.hid hL
  have d1 : decide ((3000 : Int) < (key.size : Int)) = false := decide_eq_false (by omega)
  have HM := Lib.hid hM
  clear hb0 hI hL hk hM
  have HH := Lib.hid hH
  have HT := Lib.hid (may_true HM.out)
  have hz : n + m + k < 3000 := by have h1 := large_no HL.out; have h2 := wide_len xs; have h3 := HN.out.K.len; omega
  have hln := low_le xs key
  rw [HN.out.K.len] at hln
  have HLN := Lib.hid hln
  have HKL := Lib.hid HN.out.K.len
  have hnk : k = n := by have h := HT.out; rw [if_pos rfl] at h; have := HKL.out; omega
  have HNK := Lib.hid hnk
  clear hH hln hnk
  obtain ⟨bf, hbf⟩ : ∃ bf, decide ((n : Int) < fan) = bf := ⟨_, rfl⟩
  have e1 : decide ((n : Int) + 1 ≤ fan) = bf := by rw [← hbf, decide_eq_decide]; omega
  obtain ⟨v, hv⟩ : ∃ v, safeB true n m fan 2 false = v := ⟨_, rfl⟩
  have HS1 : Hid (∀ W, Calls Try.prog 19 #[.agg #[.bool true, .slice A n c, .slice B m d, .slice C k e], .int .i64 fan, .int .u8 1, .bool false] W (SafeEnd bf W)) := fun W => by
    have := Safe_any true A B C n c m d k e fan 1 false W (by omega) (by omega)
    rw [show safeB true n m fan 1 false = bf from hbf] at this; exact this
  have HS2 : Hid (∀ W, Calls Try.prog 19 #[.agg #[.bool true, .slice A n c, .slice B m d, .slice C k e], .int .i64 fan, .int .u8 2, .bool false] W (SafeEnd v W)) := fun W => by
    have := Safe_any true A B C n c m d k e fan 2 false W (by omega) (by omega)
    rw [hv] at this; exact this
  have HV := Lib.hid hv
  have HBF := Lib.hid hbf
  clear hv hbf
  go_enter Try.func8, Try.ntmps8
  go_wp2_with fail
  refine (large_any true A B C n c m d k e xs _ (HI.out.K.rd.later HB0.out) (by have := HI.out.hn; omega) (by have := HI.out.hm; omega) (by have := HI.out.hk; omega) (fun s hs => by have := HI.out.hs s hs; omega)).mono ?_
  rintro x w1 ⟨rfl, hb⟩
  rw [HL.out]
  have HB1 := Lib.hid (stepB HB0.out hb)
  have b1 := Lib.hid (b0.out.later hb)
  have c1 := b1.out.c4
  clear hb b0 HB0 c0
  go_wp2_with fail
  refine (awake_any _).mono ?_
  rintro x w2 ⟨rfl, hb⟩
  have HB2 := Lib.hid (stepB HB1.out hb)
  have b2 := Lib.hid (b1.out.later hb)
  have c2 := b2.out.c4
  clear hb b1 HB1 c1
  go_wp2_with fail
  refine (May_any true A B C n c m d k e xs _ (HN.out.later HB2.out).K.rd (by have := HN.out.sz; omega) (by have := HN.out.sz; omega) (by have := HN.out.sz; omega)).mono ?_
  rintro x w3 ⟨rfl, hb⟩
  rw [HM.out]
  have HB3 := Lib.hid (stepB HB2.out hb)
  have b3 := Lib.hid (b2.out.later hb)
  have cb3 := b3.out.c4
  clear hb b2 HB2 c2
  go_wp2_with fail
  refine ((put_twice A B C n c m d k e xs ks rs key 1 _ (HN.out.later HB3.out) HM.out HH.out).mono (fun x w' h => node_of h (n := 0) (m := 0) (k := 0) rfl rfl rfl (by omega))).mono ?_
  rintro x w4 ⟨AP, BP, CP, cP, dP, eP, rfl, hP, hb⟩
  have HB4 := Lib.hid (stepB HB3.out hb)
  have b4 := Lib.hid (b3.out.later hb)
  have cb4 := b4.out.c4
  clear b3 cb3 HB3
  clear hb
  clear hP
  go_upto_region 4 with (fail)
  have HB5 : Hid (Below w.heap.size w (w4.alloc (.cells #[.bool false, .slice AP 0 cP, .slice BP 0 dP, .slice CP 0 eP] 28))) := HB4.out.alloc HB4.out.size _
  have b5 := Lib.hid (b4.out.alloc (.cells #[.bool false, .slice AP 0 cP, .slice BP 0 dP, .slice CP 0 eP] 28))
  have a5 := Lib.hid (Blk.new w4 #[.bool false, .slice AP 0 cP, .slice BP 0 dP, .slice CP 0 eP] 28)
  have na : w.heap.size < w4.heap.size := b4.out.lt
  clear b4 cb4 HB4
  generalize (w4.alloc (.cells #[.bool false, .slice AP 0 cP, .slice BP 0 dP, .slice CP 0 eP] 28)) = w5 at *
  generalize w4.heap.size = Ba at a5 na  ⊢
  have cb5 := b5.out.c4
  have ca5 := a5.out.c4
  go_wp2_with fail
  go_quiet (fail)
  obtain ⟨w6, hw6⟩ : ∃ W, W = w5.drewN nq := ⟨_, rfl⟩
  have hb : Below w5.heap.size w5 w6 := by rw [hw6]; exact below_drewN (Below.refl _ _) _
  rw [← hw6]
  have HB6 := Lib.hid (stepB HB5.out hb)
  have b6 := Lib.hid (b5.out.later hb)
  have a6 := Lib.hid (a5.out.later hb)
  have cb6 := b6.out.c4
  have ca6 := a6.out.c4
  clear b5 cb5 a5 ca5 HB5
  clear hb hw6
  go_wp2_with fail
  refine (HS2.out _).mono ?_
  rintro x w7 ⟨rfl, hb⟩
  have HB7 := Lib.hid (stepB HB6.out hb)
  have b7 := Lib.hid (b6.out.later hb)
  have a7 := Lib.hid (a6.out.later hb)
  have cb7 := b7.out.c4
  have ca7 := a7.out.c4
  clear b6 cb6 a6 ca6 HB6
  clear hb
  obtain ⟨nt, hnt⟩ : ∃ nt, n = nt + 1 := ⟨n - 1, by have h := has_lt HH.out; rw [HKL.out] at h; omega⟩
  have HNT := Lib.hid hnt
  have hvv : decide (0 < nt) = v := by rw [← HV.out]; show _ = decide (1 < n); rw [decide_eq_decide]; omega
  have hvi : decide ((0 : Int) < (nt : Int)) = v := by rw [← hvv, decide_eq_decide]; omega
  clear hnt
  go_wp2_with fail
  refine ((take_ok A B C n c m d k e xs ks rs key _ (HN.out.later HB7.out) HM.out HH.out).mono (fun x w' h => node_of h (n := nt) (m := 0) (k := nt) (len_cut _ HKL.out (by have h := has_lt HH.out; rwa [HKL.out] at h) HNT.out) rfl (len_cut _ HN.out.R.len (by have h := has_lt HH.out; rw [HKL.out] at h; have := HNK.out; omega) (by have := HNK.out; have := HNT.out; omega)) (by have := HNT.out; omega))).mono ?_
  rintro x w8 ⟨AT, BT, CT, cT, dT, eT, rfl, hP, hb⟩
  have HB8 := Lib.hid (stepB HB7.out hb)
  have b8 := Lib.hid (b7.out.later hb)
  have a8 := Lib.hid (a7.out.later hb)
  have cb8 := b8.out.c4
  have ca8 := a8.out.c4
  clear b7 cb7 a7 ca7 HB7
  clear hb
  clear hP
  go_wp2
  go_ret
  exact ⟨rfl, HB8.out.alloc HB8.out.size _⟩
set_option maxRecDepth 100000 in
set_option maxHeartbeats 4000000 in
theorem m_false_not_one (A B C : Option Addr) (n c m d k e : Nat) (xs : List ByteArray) (ks rs : List Int) (key : ByteArray) (fan kid : Int) (root : Bool) (w : World) (hI : NdIn w A B C n c m d k e xs ks rs) (hL : largeB xs m k = false) (hk : ¬ 3000 < key.size) (hM : mayB false xs m k = true) (hH : hasB xs key = false) (hc : m = 1) : Calls Try.prog 8 #[.agg #[.bool false, .slice A n c, .slice B m d, .slice C k e], .string key, .int .i64 fan, .int .i64 kid, .bool root] w (fun e w' => e = .returned (.bool true) ∧ Below w.heap.size w w') := by
  have hb0 : Below w.heap.size w (w.alloc (.cells #[.bool false, .slice A n c, .slice B m d, .slice C k e] 28)) := (Below.refl _ _).alloc (Nat.le_refl _) _
  have b0 := Lib.hid (Blk.new w #[.bool false, .slice A n c, .slice B m d, .slice C k e] 28)
  have c0 := b0.out.c4
  have HB0 := Lib.hid hb0
  have HN : Hid (Nd w A B C n c m d k e xs ks rs) := ⟨hI.K, hI.D, hI.R, by have h1 := large_no hL; have h2 := wide_len xs; have h3 := hI.K.len; omega⟩
  have HI := Lib.hid hI
  have HL := Lib.hid hL
  have d1 : decide ((3000 : Int) < (key.size : Int)) = false := decide_eq_false (by omega)
  have HM := Lib.hid hM
  clear hb0 hI hL hk hM
  have HH := Lib.hid hH
  have HT := Lib.hid (may_true HM.out)
  have hz : n + m + k < 3000 := by have h1 := large_no HL.out; have h2 := wide_len xs; have h3 := HN.out.K.len; omega
  have hln := low_le xs key
  rw [HN.out.K.len] at hln
  have HLN := Lib.hid hln
  have HKL := Lib.hid HN.out.K.len
  have hnk : m = n + 1 := by have h := HT.out; rw [if_neg (by decide)] at h; have := HKL.out; omega
  have HNK := Lib.hid hnk
  have Hhc := Lib.hid hc
  clear hH hln hnk hc
  obtain ⟨bf, hbf⟩ : ∃ bf, decide ((n : Int) < fan) = bf := ⟨_, rfl⟩
  have e1 : decide ((n : Int) + 1 ≤ fan) = bf := by rw [← hbf, decide_eq_decide]; omega
  obtain ⟨v, hv⟩ : ∃ v, safeB false n m fan 2 root = v := ⟨_, rfl⟩
  have HS1 : Hid (∀ W, Calls Try.prog 19 #[.agg #[.bool false, .slice A n c, .slice B m d, .slice C k e], .int .i64 fan, .int .u8 1, .bool root] W (SafeEnd bf W)) := fun W => by
    have := Safe_any false A B C n c m d k e fan 1 root W (by omega) (by omega)
    rw [show safeB false n m fan 1 root = bf from hbf] at this; exact this
  have HS2 : Hid (∀ W, Calls Try.prog 19 #[.agg #[.bool false, .slice A n c, .slice B m d, .slice C k e], .int .i64 fan, .int .u8 2, .bool root] W (SafeEnd v W)) := fun W => by
    have := Safe_any false A B C n c m d k e fan 2 root W (by omega) (by omega)
    rw [hv] at this; exact this
  have HV := Lib.hid hv
  have HBF := Lib.hid hbf
  clear hv hbf
  go_enter Try.func8, Try.ntmps8
  go_wp2_with fail
  refine (large_any false A B C n c m d k e xs _ (HI.out.K.rd.later HB0.out) (by have := HI.out.hn; omega) (by have := HI.out.hm; omega) (by have := HI.out.hk; omega) (fun s hs => by have := HI.out.hs s hs; omega)).mono ?_
  rintro x w1 ⟨rfl, hb⟩
  rw [HL.out]
  have HB1 := Lib.hid (stepB HB0.out hb)
  have b1 := Lib.hid (b0.out.later hb)
  have c1 := b1.out.c4
  clear hb b0 HB0 c0
  go_wp2_with fail
  refine (awake_any _).mono ?_
  rintro x w2 ⟨rfl, hb⟩
  have HB2 := Lib.hid (stepB HB1.out hb)
  have b2 := Lib.hid (b1.out.later hb)
  have c2 := b2.out.c4
  clear hb b1 HB1 c1
  go_wp2_with fail
  refine (May_any false A B C n c m d k e xs _ (HN.out.later HB2.out).K.rd (by have := HN.out.sz; omega) (by have := HN.out.sz; omega) (by have := HN.out.sz; omega)).mono ?_
  rintro x w3 ⟨rfl, hb⟩
  rw [HM.out]
  have HB3 := Lib.hid (stepB HB2.out hb)
  have b3 := Lib.hid (b2.out.later hb)
  have cb3 := b3.out.c4
  clear hb b2 HB2 c2
  go_wp2_with fail
  refine ((put_inner A B C n c m d k e xs ks rs key 1 _ (HN.out.later HB3.out)).mono (fun x w' h => node_of h (n := 0) (m := 0) (k := 0) rfl rfl rfl (by omega))).mono ?_
  rintro x w4 ⟨AP, BP, CP, cP, dP, eP, rfl, hP, hb⟩
  have HB4 := Lib.hid (stepB HB3.out hb)
  have b4 := Lib.hid (b3.out.later hb)
  have cb4 := b4.out.c4
  clear b3 cb3 HB3
  clear hb
  clear hP
  go_upto_region 4 with (fail)
  have HB5 : Hid (Below w.heap.size w (w4.alloc (.cells #[.bool false, .slice AP 0 cP, .slice BP 0 dP, .slice CP 0 eP] 28))) := HB4.out.alloc HB4.out.size _
  have b5 := Lib.hid (b4.out.alloc (.cells #[.bool false, .slice AP 0 cP, .slice BP 0 dP, .slice CP 0 eP] 28))
  have a5 := Lib.hid (Blk.new w4 #[.bool false, .slice AP 0 cP, .slice BP 0 dP, .slice CP 0 eP] 28)
  have na : w.heap.size < w4.heap.size := b4.out.lt
  clear b4 cb4 HB4
  generalize (w4.alloc (.cells #[.bool false, .slice AP 0 cP, .slice BP 0 dP, .slice CP 0 eP] 28)) = w5 at *
  generalize w4.heap.size = Ba at a5 na  ⊢
  have cb5 := b5.out.c4
  have ca5 := a5.out.c4
  go_wp2_with fail
  refine ((graft_ok A B C n c m d k e xs ks rs key kid _ (HN.out.later HB5.out) HM.out HH.out).mono (fun x w' h => node_of h (n := n + 1) (m := m + 1) (k := 0) (len_put _ _ HKL.out HLN.out) (len_put _ _ HN.out.D.len (by have := HNK.out; have := HLN.out; omega)) rfl (by omega))).mono ?_
  rintro x w6 ⟨AG, BG, CG, cG, dG, eG, rfl, hP, hb⟩
  have HB6 := Lib.hid (stepB HB5.out hb)
  have b6 := Lib.hid (b5.out.later hb)
  have a6 := Lib.hid (a5.out.later hb)
  have cb6 := b6.out.c4
  have ca6 := a6.out.c4
  clear b5 cb5 a5 ca5 HB5
  clear hb
  clear hP
  have l6 := a6.out.f4
  go_upto_region 6 with (fail)
  clear l6
  have HB7 : Hid (Below w.heap.size w (((((w6).setCell ⟨Ba, 0, none⟩ (.bool false)).setCell ⟨Ba, 1, none⟩ (.slice AG (n + 1) cG)).setCell ⟨Ba, 2, none⟩ (.slice BG (m + 1) dG)).setCell ⟨Ba, 3, none⟩ (.slice CG 0 eG))) := set4 HB6.out (by omega)
  have b7 := Lib.hid (blk_other4 (g := Ba) (a := .bool false) (b := .slice AG (n + 1) cG) (c := .slice BG (m + 1) dG) (d := .slice CG 0 eG) b6.out (by omega))
  have a7 := Lib.hid (blk_set4 (a := .bool false) (b := .slice AG (n + 1) cG) (c := .slice BG (m + 1) dG) (d := .slice CG 0 eG) a6.out)
  clear b6 cb6 a6 ca6 HB6
  generalize (((((w6).setCell ⟨Ba, 0, none⟩ (.bool false)).setCell ⟨Ba, 1, none⟩ (.slice AG (n + 1) cG)).setCell ⟨Ba, 2, none⟩ (.slice BG (m + 1) dG)).setCell ⟨Ba, 3, none⟩ (.slice CG 0 eG)) = w7 at *
  have cb7 := b7.out.c4
  have ca7 := a7.out.c4
  have K0 : Hid ((SQ w w.heap.size Ba (.bool false) (.slice A n c) (.slice B m d) (.slice C k e) (.bool false) (.slice AG (n + 1) cG) (.slice BG (m + 1) dG) (.slice CG 0 eG)) w7) := ⟨HB7.out, cb7, ca7⟩
  go_region_held3 (SQ w w.heap.size Ba (.bool false) (.slice A n c) (.slice B m d) (.slice C k e) (.bool false) (.slice AG (n + 1) cG) (.slice BG (m + 1) dG) (.slice CG 0 eG)) (repeat (first | with_reducible assumption | with_reducible exact K0.out | with_reducible refine SQ.drew ?_ | with_reducible refine SQ.later ?_ (by with_reducible assumption))) (first
    | (go_at_call 19; refine (HS1.out _).mono ?_; rintro x wS ⟨rfl, hb⟩))
  have hbb : Below w7.heap.size w7 wS := by show Aft _ _; (repeat (first | with_reducible assumption | with_reducible exact Aft.refl _ | with_reducible refine Aft.drew ?_ | with_reducible refine Aft.below ?_ (by with_reducible assumption)))
  rename_i hq0
  clear hq0
  obtain ⟨w8, hw8⟩ : ∃ W, W = wS := ⟨_, rfl⟩
  rw [← hw8] at hbb ⊢
  have HB8 := Lib.hid (stepB HB7.out hbb)
  have b8 := Lib.hid (b7.out.later hbb)
  have a8 := Lib.hid (a7.out.later hbb)
  have cb8 := b8.out.c4
  have ca8 := a8.out.c4
  clear b7 cb7 a7 ca7 HB7
  clear hbb hb hw8 K0
  go_wp2_with fail
  refine (HS2.out _).mono ?_
  rintro x w9 ⟨rfl, hb⟩
  have HB9 := Lib.hid (stepB HB8.out hb)
  have b9 := Lib.hid (b8.out.later hb)
  have a9 := Lib.hid (a8.out.later hb)
  have cb9 := b9.out.c4
  have ca9 := a9.out.c4
  clear b8 cb8 a8 ca8 HB8
  clear hb
  have hvv : v = false := by rw [← HV.out, Hhc.out]; cases root <;> rfl
  subst hvv
  have dm : decide ((1 : Int) < (m : Int)) = false := decide_eq_false (by have := Hhc.out; omega)
  have dn : decide (1 < m) = false := decide_eq_false (by have := Hhc.out; omega)
  go_wp2_with fail
  refine ((cut_one A B C n c m d k e xs ks rs kid _ (HN.out.later HB9.out) HM.out Hhc.out).mono (fun x w' h => node_of h (n := 0) (m := 0) (k := 0) rfl rfl rfl (by omega))).mono ?_
  rintro x w10 ⟨AT, BT, CT, cT, dT, eT, rfl, hP, hb⟩
  have HB10 := Lib.hid (stepB HB9.out hb)
  have b10 := Lib.hid (b9.out.later hb)
  have a10 := Lib.hid (a9.out.later hb)
  have cb10 := b10.out.c4
  have ca10 := a10.out.c4
  clear b9 cb9 a9 ca9 HB9
  clear hb
  clear hP
  have nb := b10.out.lt
  have nc : ¬ w.heap.size = w10.heap.size := by omega
  go_wp2
  all_goals (go_ret; exact ⟨rfl, HB10.out.alloc HB10.out.size _⟩)
set_option maxRecDepth 100000 in
set_option maxHeartbeats 4000000 in
theorem m_false_not_low (A B C : Option Addr) (n c m d k e : Nat) (xs : List ByteArray) (ks rs : List Int) (key : ByteArray) (fan kid : Int) (root : Bool) (w : World) (hI : NdIn w A B C n c m d k e xs ks rs) (hL : largeB xs m k = false) (hk : ¬ 3000 < key.size) (hM : mayB false xs m k = true) (hH : hasB xs key = false) (hm1 : m ≠ 1) (hc : kid < 0) : Calls Try.prog 8 #[.agg #[.bool false, .slice A n c, .slice B m d, .slice C k e], .string key, .int .i64 fan, .int .i64 kid, .bool root] w (fun e w' => e = .returned (.bool true) ∧ Below w.heap.size w w') := by
  have hb0 : Below w.heap.size w (w.alloc (.cells #[.bool false, .slice A n c, .slice B m d, .slice C k e] 28)) := (Below.refl _ _).alloc (Nat.le_refl _) _
  have b0 := Lib.hid (Blk.new w #[.bool false, .slice A n c, .slice B m d, .slice C k e] 28)
  have c0 := b0.out.c4
  have HB0 := Lib.hid hb0
  have HN : Hid (Nd w A B C n c m d k e xs ks rs) := ⟨hI.K, hI.D, hI.R, by have h1 := large_no hL; have h2 := wide_len xs; have h3 := hI.K.len; omega⟩
  have HI := Lib.hid hI
  have HL := Lib.hid hL
  have d1 : decide ((3000 : Int) < (key.size : Int)) = false := decide_eq_false (by omega)
  have HM := Lib.hid hM
  clear hb0 hI hL hk hM
  have HH := Lib.hid hH
  have HT := Lib.hid (may_true HM.out)
  have hz : n + m + k < 3000 := by have h1 := large_no HL.out; have h2 := wide_len xs; have h3 := HN.out.K.len; omega
  have hln := low_le xs key
  rw [HN.out.K.len] at hln
  have HLN := Lib.hid hln
  have HKL := Lib.hid HN.out.K.len
  have hnk : m = n + 1 := by have h := HT.out; rw [if_neg (by decide)] at h; have := HKL.out; omega
  have HNK := Lib.hid hnk
  have Hhc := Lib.hid hc
  have Hhm1 := Lib.hid hm1
  clear hH hln hnk hc hm1
  obtain ⟨bf, hbf⟩ : ∃ bf, decide ((n : Int) < fan) = bf := ⟨_, rfl⟩
  have e1 : decide ((n : Int) + 1 ≤ fan) = bf := by rw [← hbf, decide_eq_decide]; omega
  obtain ⟨v, hv⟩ : ∃ v, safeB false n m fan 2 root = v := ⟨_, rfl⟩
  have HS1 : Hid (∀ W, Calls Try.prog 19 #[.agg #[.bool false, .slice A n c, .slice B m d, .slice C k e], .int .i64 fan, .int .u8 1, .bool root] W (SafeEnd bf W)) := fun W => by
    have := Safe_any false A B C n c m d k e fan 1 root W (by omega) (by omega)
    rw [show safeB false n m fan 1 root = bf from hbf] at this; exact this
  have HS2 : Hid (∀ W, Calls Try.prog 19 #[.agg #[.bool false, .slice A n c, .slice B m d, .slice C k e], .int .i64 fan, .int .u8 2, .bool root] W (SafeEnd v W)) := fun W => by
    have := Safe_any false A B C n c m d k e fan 2 root W (by omega) (by omega)
    rw [hv] at this; exact this
  have HV := Lib.hid hv
  have HBF := Lib.hid hbf
  clear hv hbf
  go_enter Try.func8, Try.ntmps8
  go_wp2_with fail
  refine (large_any false A B C n c m d k e xs _ (HI.out.K.rd.later HB0.out) (by have := HI.out.hn; omega) (by have := HI.out.hm; omega) (by have := HI.out.hk; omega) (fun s hs => by have := HI.out.hs s hs; omega)).mono ?_
  rintro x w1 ⟨rfl, hb⟩
  rw [HL.out]
  have HB1 := Lib.hid (stepB HB0.out hb)
  have b1 := Lib.hid (b0.out.later hb)
  have c1 := b1.out.c4
  clear hb b0 HB0 c0
  go_wp2_with fail
  refine (awake_any _).mono ?_
  rintro x w2 ⟨rfl, hb⟩
  have HB2 := Lib.hid (stepB HB1.out hb)
  have b2 := Lib.hid (b1.out.later hb)
  have c2 := b2.out.c4
  clear hb b1 HB1 c1
  go_wp2_with fail
  refine (May_any false A B C n c m d k e xs _ (HN.out.later HB2.out).K.rd (by have := HN.out.sz; omega) (by have := HN.out.sz; omega) (by have := HN.out.sz; omega)).mono ?_
  rintro x w3 ⟨rfl, hb⟩
  rw [HM.out]
  have HB3 := Lib.hid (stepB HB2.out hb)
  have b3 := Lib.hid (b2.out.later hb)
  have cb3 := b3.out.c4
  clear hb b2 HB2 c2
  go_wp2_with fail
  refine ((put_inner A B C n c m d k e xs ks rs key 1 _ (HN.out.later HB3.out)).mono (fun x w' h => node_of h (n := 0) (m := 0) (k := 0) rfl rfl rfl (by omega))).mono ?_
  rintro x w4 ⟨AP, BP, CP, cP, dP, eP, rfl, hP, hb⟩
  have HB4 := Lib.hid (stepB HB3.out hb)
  have b4 := Lib.hid (b3.out.later hb)
  have cb4 := b4.out.c4
  clear b3 cb3 HB3
  clear hb
  clear hP
  go_upto_region 4 with (fail)
  have HB5 : Hid (Below w.heap.size w (w4.alloc (.cells #[.bool false, .slice AP 0 cP, .slice BP 0 dP, .slice CP 0 eP] 28))) := HB4.out.alloc HB4.out.size _
  have b5 := Lib.hid (b4.out.alloc (.cells #[.bool false, .slice AP 0 cP, .slice BP 0 dP, .slice CP 0 eP] 28))
  have a5 := Lib.hid (Blk.new w4 #[.bool false, .slice AP 0 cP, .slice BP 0 dP, .slice CP 0 eP] 28)
  have na : w.heap.size < w4.heap.size := b4.out.lt
  clear b4 cb4 HB4
  generalize (w4.alloc (.cells #[.bool false, .slice AP 0 cP, .slice BP 0 dP, .slice CP 0 eP] 28)) = w5 at *
  generalize w4.heap.size = Ba at a5 na  ⊢
  have cb5 := b5.out.c4
  have ca5 := a5.out.c4
  go_wp2_with fail
  refine ((graft_ok A B C n c m d k e xs ks rs key kid _ (HN.out.later HB5.out) HM.out HH.out).mono (fun x w' h => node_of h (n := n + 1) (m := m + 1) (k := 0) (len_put _ _ HKL.out HLN.out) (len_put _ _ HN.out.D.len (by have := HNK.out; have := HLN.out; omega)) rfl (by omega))).mono ?_
  rintro x w6 ⟨AG, BG, CG, cG, dG, eG, rfl, hP, hb⟩
  have HB6 := Lib.hid (stepB HB5.out hb)
  have b6 := Lib.hid (b5.out.later hb)
  have a6 := Lib.hid (a5.out.later hb)
  have cb6 := b6.out.c4
  have ca6 := a6.out.c4
  clear b5 cb5 a5 ca5 HB5
  clear hb
  clear hP
  have l6 := a6.out.f4
  go_upto_region 6 with (fail)
  clear l6
  have HB7 : Hid (Below w.heap.size w (((((w6).setCell ⟨Ba, 0, none⟩ (.bool false)).setCell ⟨Ba, 1, none⟩ (.slice AG (n + 1) cG)).setCell ⟨Ba, 2, none⟩ (.slice BG (m + 1) dG)).setCell ⟨Ba, 3, none⟩ (.slice CG 0 eG))) := set4 HB6.out (by omega)
  have b7 := Lib.hid (blk_other4 (g := Ba) (a := .bool false) (b := .slice AG (n + 1) cG) (c := .slice BG (m + 1) dG) (d := .slice CG 0 eG) b6.out (by omega))
  have a7 := Lib.hid (blk_set4 (a := .bool false) (b := .slice AG (n + 1) cG) (c := .slice BG (m + 1) dG) (d := .slice CG 0 eG) a6.out)
  clear b6 cb6 a6 ca6 HB6
  generalize (((((w6).setCell ⟨Ba, 0, none⟩ (.bool false)).setCell ⟨Ba, 1, none⟩ (.slice AG (n + 1) cG)).setCell ⟨Ba, 2, none⟩ (.slice BG (m + 1) dG)).setCell ⟨Ba, 3, none⟩ (.slice CG 0 eG)) = w7 at *
  have cb7 := b7.out.c4
  have ca7 := a7.out.c4
  have K0 : Hid ((SQ w w.heap.size Ba (.bool false) (.slice A n c) (.slice B m d) (.slice C k e) (.bool false) (.slice AG (n + 1) cG) (.slice BG (m + 1) dG) (.slice CG 0 eG)) w7) := ⟨HB7.out, cb7, ca7⟩
  go_region_held3 (SQ w w.heap.size Ba (.bool false) (.slice A n c) (.slice B m d) (.slice C k e) (.bool false) (.slice AG (n + 1) cG) (.slice BG (m + 1) dG) (.slice CG 0 eG)) (repeat (first | with_reducible assumption | with_reducible exact K0.out | with_reducible refine SQ.drew ?_ | with_reducible refine SQ.later ?_ (by with_reducible assumption))) (first
    | (go_at_call 19; refine (HS1.out _).mono ?_; rintro x wS ⟨rfl, hb⟩))
  have hbb : Below w7.heap.size w7 wS := by show Aft _ _; (repeat (first | with_reducible assumption | with_reducible exact Aft.refl _ | with_reducible refine Aft.drew ?_ | with_reducible refine Aft.below ?_ (by with_reducible assumption)))
  rename_i hq0
  clear hq0
  obtain ⟨w8, hw8⟩ : ∃ W, W = wS := ⟨_, rfl⟩
  rw [← hw8] at hbb ⊢
  have HB8 := Lib.hid (stepB HB7.out hbb)
  have b8 := Lib.hid (b7.out.later hbb)
  have a8 := Lib.hid (a7.out.later hbb)
  have cb8 := b8.out.c4
  have ca8 := a8.out.c4
  clear b7 cb7 a7 ca7 HB7
  clear hbb hb hw8 K0
  go_wp2_with fail
  refine (HS2.out _).mono ?_
  rintro x w9 ⟨rfl, hb⟩
  have HB9 := Lib.hid (stepB HB8.out hb)
  have b9 := Lib.hid (b8.out.later hb)
  have a9 := Lib.hid (a8.out.later hb)
  have cb9 := b9.out.c4
  have ca9 := a9.out.c4
  clear b8 cb8 a8 ca8 HB8
  clear hb
  have dm : decide ((1 : Int) < (m : Int)) = true := decide_eq_true (by have := Hhm1.out; have := HNK.out; omega)
  have dn : decide (1 < m) = true := decide_eq_true (by have := Hhm1.out; have := HNK.out; omega)
  go_wp2_with fail
  refine ((cut_none_low A B C n c m d k e xs ks rs kid _ (HN.out.later HB9.out) HM.out Hhm1.out Hhc.out).mono (fun x w' h => node_of h (n := 0) (m := 0) (k := 0) rfl rfl rfl (by omega))).mono ?_
  rintro x w10 ⟨AT, BT, CT, cT, dT, eT, rfl, hP, hb⟩
  have HB10 := Lib.hid (stepB HB9.out hb)
  have b10 := Lib.hid (b9.out.later hb)
  have a10 := Lib.hid (a9.out.later hb)
  have cb10 := b10.out.c4
  have ca10 := a10.out.c4
  clear b9 cb9 a9 ca9 HB9
  clear hb
  clear hP
  have nb := b10.out.lt
  have nc : ¬ w.heap.size = w10.heap.size := by omega
  go_wp2
  all_goals (go_ret; exact ⟨rfl, HB10.out.alloc HB10.out.size _⟩)
set_option maxRecDepth 100000 in
set_option maxHeartbeats 4000000 in
theorem m_false_not_high (A B C : Option Addr) (n c m d k e : Nat) (xs : List ByteArray) (ks rs : List Int) (key : ByteArray) (fan kid : Int) (root : Bool) (w : World) (hI : NdIn w A B C n c m d k e xs ks rs) (hL : largeB xs m k = false) (hk : ¬ 3000 < key.size) (hM : mayB false xs m k = true) (hH : hasB xs key = false) (hm1 : m ≠ 1) (hc : (m : Int) ≤ kid) : Calls Try.prog 8 #[.agg #[.bool false, .slice A n c, .slice B m d, .slice C k e], .string key, .int .i64 fan, .int .i64 kid, .bool root] w (fun e w' => e = .returned (.bool true) ∧ Below w.heap.size w w') := by
  have hb0 : Below w.heap.size w (w.alloc (.cells #[.bool false, .slice A n c, .slice B m d, .slice C k e] 28)) := (Below.refl _ _).alloc (Nat.le_refl _) _
  have b0 := Lib.hid (Blk.new w #[.bool false, .slice A n c, .slice B m d, .slice C k e] 28)
  have c0 := b0.out.c4
  have HB0 := Lib.hid hb0
  have HN : Hid (Nd w A B C n c m d k e xs ks rs) := ⟨hI.K, hI.D, hI.R, by have h1 := large_no hL; have h2 := wide_len xs; have h3 := hI.K.len; omega⟩
  have HI := Lib.hid hI
  have HL := Lib.hid hL
  have d1 : decide ((3000 : Int) < (key.size : Int)) = false := decide_eq_false (by omega)
  have HM := Lib.hid hM
  clear hb0 hI hL hk hM
  have HH := Lib.hid hH
  have HT := Lib.hid (may_true HM.out)
  have hz : n + m + k < 3000 := by have h1 := large_no HL.out; have h2 := wide_len xs; have h3 := HN.out.K.len; omega
  have hln := low_le xs key
  rw [HN.out.K.len] at hln
  have HLN := Lib.hid hln
  have HKL := Lib.hid HN.out.K.len
  have hnk : m = n + 1 := by have h := HT.out; rw [if_neg (by decide)] at h; have := HKL.out; omega
  have HNK := Lib.hid hnk
  have Hhc := Lib.hid hc
  have Hhm1 := Lib.hid hm1
  clear hH hln hnk hc hm1
  obtain ⟨bf, hbf⟩ : ∃ bf, decide ((n : Int) < fan) = bf := ⟨_, rfl⟩
  have e1 : decide ((n : Int) + 1 ≤ fan) = bf := by rw [← hbf, decide_eq_decide]; omega
  obtain ⟨v, hv⟩ : ∃ v, safeB false n m fan 2 root = v := ⟨_, rfl⟩
  have HS1 : Hid (∀ W, Calls Try.prog 19 #[.agg #[.bool false, .slice A n c, .slice B m d, .slice C k e], .int .i64 fan, .int .u8 1, .bool root] W (SafeEnd bf W)) := fun W => by
    have := Safe_any false A B C n c m d k e fan 1 root W (by omega) (by omega)
    rw [show safeB false n m fan 1 root = bf from hbf] at this; exact this
  have HS2 : Hid (∀ W, Calls Try.prog 19 #[.agg #[.bool false, .slice A n c, .slice B m d, .slice C k e], .int .i64 fan, .int .u8 2, .bool root] W (SafeEnd v W)) := fun W => by
    have := Safe_any false A B C n c m d k e fan 2 root W (by omega) (by omega)
    rw [hv] at this; exact this
  have HV := Lib.hid hv
  have HBF := Lib.hid hbf
  clear hv hbf
  go_enter Try.func8, Try.ntmps8
  go_wp2_with fail
  refine (large_any false A B C n c m d k e xs _ (HI.out.K.rd.later HB0.out) (by have := HI.out.hn; omega) (by have := HI.out.hm; omega) (by have := HI.out.hk; omega) (fun s hs => by have := HI.out.hs s hs; omega)).mono ?_
  rintro x w1 ⟨rfl, hb⟩
  rw [HL.out]
  have HB1 := Lib.hid (stepB HB0.out hb)
  have b1 := Lib.hid (b0.out.later hb)
  have c1 := b1.out.c4
  clear hb b0 HB0 c0
  go_wp2_with fail
  refine (awake_any _).mono ?_
  rintro x w2 ⟨rfl, hb⟩
  have HB2 := Lib.hid (stepB HB1.out hb)
  have b2 := Lib.hid (b1.out.later hb)
  have c2 := b2.out.c4
  clear hb b1 HB1 c1
  go_wp2_with fail
  refine (May_any false A B C n c m d k e xs _ (HN.out.later HB2.out).K.rd (by have := HN.out.sz; omega) (by have := HN.out.sz; omega) (by have := HN.out.sz; omega)).mono ?_
  rintro x w3 ⟨rfl, hb⟩
  rw [HM.out]
  have HB3 := Lib.hid (stepB HB2.out hb)
  have b3 := Lib.hid (b2.out.later hb)
  have cb3 := b3.out.c4
  clear hb b2 HB2 c2
  go_wp2_with fail
  refine ((put_inner A B C n c m d k e xs ks rs key 1 _ (HN.out.later HB3.out)).mono (fun x w' h => node_of h (n := 0) (m := 0) (k := 0) rfl rfl rfl (by omega))).mono ?_
  rintro x w4 ⟨AP, BP, CP, cP, dP, eP, rfl, hP, hb⟩
  have HB4 := Lib.hid (stepB HB3.out hb)
  have b4 := Lib.hid (b3.out.later hb)
  have cb4 := b4.out.c4
  clear b3 cb3 HB3
  clear hb
  clear hP
  go_upto_region 4 with (fail)
  have HB5 : Hid (Below w.heap.size w (w4.alloc (.cells #[.bool false, .slice AP 0 cP, .slice BP 0 dP, .slice CP 0 eP] 28))) := HB4.out.alloc HB4.out.size _
  have b5 := Lib.hid (b4.out.alloc (.cells #[.bool false, .slice AP 0 cP, .slice BP 0 dP, .slice CP 0 eP] 28))
  have a5 := Lib.hid (Blk.new w4 #[.bool false, .slice AP 0 cP, .slice BP 0 dP, .slice CP 0 eP] 28)
  have na : w.heap.size < w4.heap.size := b4.out.lt
  clear b4 cb4 HB4
  generalize (w4.alloc (.cells #[.bool false, .slice AP 0 cP, .slice BP 0 dP, .slice CP 0 eP] 28)) = w5 at *
  generalize w4.heap.size = Ba at a5 na  ⊢
  have cb5 := b5.out.c4
  have ca5 := a5.out.c4
  go_wp2_with fail
  refine ((graft_ok A B C n c m d k e xs ks rs key kid _ (HN.out.later HB5.out) HM.out HH.out).mono (fun x w' h => node_of h (n := n + 1) (m := m + 1) (k := 0) (len_put _ _ HKL.out HLN.out) (len_put _ _ HN.out.D.len (by have := HNK.out; have := HLN.out; omega)) rfl (by omega))).mono ?_
  rintro x w6 ⟨AG, BG, CG, cG, dG, eG, rfl, hP, hb⟩
  have HB6 := Lib.hid (stepB HB5.out hb)
  have b6 := Lib.hid (b5.out.later hb)
  have a6 := Lib.hid (a5.out.later hb)
  have cb6 := b6.out.c4
  have ca6 := a6.out.c4
  clear b5 cb5 a5 ca5 HB5
  clear hb
  clear hP
  have l6 := a6.out.f4
  go_upto_region 6 with (fail)
  clear l6
  have HB7 : Hid (Below w.heap.size w (((((w6).setCell ⟨Ba, 0, none⟩ (.bool false)).setCell ⟨Ba, 1, none⟩ (.slice AG (n + 1) cG)).setCell ⟨Ba, 2, none⟩ (.slice BG (m + 1) dG)).setCell ⟨Ba, 3, none⟩ (.slice CG 0 eG))) := set4 HB6.out (by omega)
  have b7 := Lib.hid (blk_other4 (g := Ba) (a := .bool false) (b := .slice AG (n + 1) cG) (c := .slice BG (m + 1) dG) (d := .slice CG 0 eG) b6.out (by omega))
  have a7 := Lib.hid (blk_set4 (a := .bool false) (b := .slice AG (n + 1) cG) (c := .slice BG (m + 1) dG) (d := .slice CG 0 eG) a6.out)
  clear b6 cb6 a6 ca6 HB6
  generalize (((((w6).setCell ⟨Ba, 0, none⟩ (.bool false)).setCell ⟨Ba, 1, none⟩ (.slice AG (n + 1) cG)).setCell ⟨Ba, 2, none⟩ (.slice BG (m + 1) dG)).setCell ⟨Ba, 3, none⟩ (.slice CG 0 eG)) = w7 at *
  have cb7 := b7.out.c4
  have ca7 := a7.out.c4
  have K0 : Hid ((SQ w w.heap.size Ba (.bool false) (.slice A n c) (.slice B m d) (.slice C k e) (.bool false) (.slice AG (n + 1) cG) (.slice BG (m + 1) dG) (.slice CG 0 eG)) w7) := ⟨HB7.out, cb7, ca7⟩
  go_region_held3 (SQ w w.heap.size Ba (.bool false) (.slice A n c) (.slice B m d) (.slice C k e) (.bool false) (.slice AG (n + 1) cG) (.slice BG (m + 1) dG) (.slice CG 0 eG)) (repeat (first | with_reducible assumption | with_reducible exact K0.out | with_reducible refine SQ.drew ?_ | with_reducible refine SQ.later ?_ (by with_reducible assumption))) (first
    | (go_at_call 19; refine (HS1.out _).mono ?_; rintro x wS ⟨rfl, hb⟩))
  have hbb : Below w7.heap.size w7 wS := by show Aft _ _; (repeat (first | with_reducible assumption | with_reducible exact Aft.refl _ | with_reducible refine Aft.drew ?_ | with_reducible refine Aft.below ?_ (by with_reducible assumption)))
  rename_i hq0
  clear hq0
  obtain ⟨w8, hw8⟩ : ∃ W, W = wS := ⟨_, rfl⟩
  rw [← hw8] at hbb ⊢
  have HB8 := Lib.hid (stepB HB7.out hbb)
  have b8 := Lib.hid (b7.out.later hbb)
  have a8 := Lib.hid (a7.out.later hbb)
  have cb8 := b8.out.c4
  have ca8 := a8.out.c4
  clear b7 cb7 a7 ca7 HB7
  clear hbb hb hw8 K0
  go_wp2_with fail
  refine (HS2.out _).mono ?_
  rintro x w9 ⟨rfl, hb⟩
  have HB9 := Lib.hid (stepB HB8.out hb)
  have b9 := Lib.hid (b8.out.later hb)
  have a9 := Lib.hid (a8.out.later hb)
  have cb9 := b9.out.c4
  have ca9 := a9.out.c4
  clear b8 cb8 a8 ca8 HB8
  clear hb
  have dm : decide ((1 : Int) < (m : Int)) = true := decide_eq_true (by have := Hhm1.out; have := HNK.out; omega)
  have dn : decide (1 < m) = true := decide_eq_true (by have := Hhm1.out; have := HNK.out; omega)
  go_wp2_with fail
  refine ((cut_none_high A B C n c m d k e xs ks rs kid _ (HN.out.later HB9.out) HM.out Hhm1.out Hhc.out).mono (fun x w' h => node_of h (n := 0) (m := 0) (k := 0) rfl rfl rfl (by omega))).mono ?_
  rintro x w10 ⟨AT, BT, CT, cT, dT, eT, rfl, hP, hb⟩
  have HB10 := Lib.hid (stepB HB9.out hb)
  have b10 := Lib.hid (b9.out.later hb)
  have a10 := Lib.hid (a9.out.later hb)
  have cb10 := b10.out.c4
  have ca10 := a10.out.c4
  clear b9 cb9 a9 ca9 HB9
  clear hb
  clear hP
  have nb := b10.out.lt
  have nc : ¬ w.heap.size = w10.heap.size := by omega
  go_wp2
  all_goals (go_ret; exact ⟨rfl, HB10.out.alloc HB10.out.size _⟩)
set_option maxRecDepth 100000 in
set_option maxHeartbeats 4000000 in
theorem m_false_not_true_ok (A B C : Option Addr) (n c m d k e : Nat) (xs : List ByteArray) (ks rs : List Int) (key : ByteArray) (fan kid : Int)  (w : World) (hI : NdIn w A B C n c m d k e xs ks rs) (hL : largeB xs m k = false) (hk : ¬ 3000 < key.size) (hM : mayB false xs m k = true) (hH : hasB xs key = false) (hm1 : m ≠ 1) (hc0 : ¬ kid < 0) (hc : ¬ (m : Int) ≤ kid) : Calls Try.prog 8 #[.agg #[.bool false, .slice A n c, .slice B m d, .slice C k e], .string key, .int .i64 fan, .int .i64 kid, .bool true] w (fun e w' => e = .returned (.bool true) ∧ Below w.heap.size w w') := by
  have hb0 : Below w.heap.size w (w.alloc (.cells #[.bool false, .slice A n c, .slice B m d, .slice C k e] 28)) := (Below.refl _ _).alloc (Nat.le_refl _) _
  have b0 := Lib.hid (Blk.new w #[.bool false, .slice A n c, .slice B m d, .slice C k e] 28)
  have c0 := b0.out.c4
  have HB0 := Lib.hid hb0
  have HN : Hid (Nd w A B C n c m d k e xs ks rs) := ⟨hI.K, hI.D, hI.R, by have h1 := large_no hL; have h2 := wide_len xs; have h3 := hI.K.len; omega⟩
  have HI := Lib.hid hI
  have HL := Lib.hid hL
  have d1 : decide ((3000 : Int) < (key.size : Int)) = false := decide_eq_false (by omega)
  have HM := Lib.hid hM
  clear hb0 hI hL hk hM
  have HH := Lib.hid hH
  have HT := Lib.hid (may_true HM.out)
  have hz : n + m + k < 3000 := by have h1 := large_no HL.out; have h2 := wide_len xs; have h3 := HN.out.K.len; omega
  have hln := low_le xs key
  rw [HN.out.K.len] at hln
  have HLN := Lib.hid hln
  have HKL := Lib.hid HN.out.K.len
  have hnk : m = n + 1 := by have h := HT.out; rw [if_neg (by decide)] at h; have := HKL.out; omega
  have HNK := Lib.hid hnk
  have Hhc := Lib.hid hc
  have Hhm1 := Lib.hid hm1
  have Hhc0 := Lib.hid hc0
  clear hH hln hnk hc hm1 hc0
  obtain ⟨bf, hbf⟩ : ∃ bf, decide ((n : Int) < fan) = bf := ⟨_, rfl⟩
  have e1 : decide ((n : Int) + 1 ≤ fan) = bf := by rw [← hbf, decide_eq_decide]; omega
  obtain ⟨v, hv⟩ : ∃ v, safeB false n m fan 2 true = v := ⟨_, rfl⟩
  have HS1 : Hid (∀ W, Calls Try.prog 19 #[.agg #[.bool false, .slice A n c, .slice B m d, .slice C k e], .int .i64 fan, .int .u8 1, .bool true] W (SafeEnd bf W)) := fun W => by
    have := Safe_any false A B C n c m d k e fan 1 true W (by omega) (by omega)
    rw [show safeB false n m fan 1 true = bf from hbf] at this; exact this
  have HS2 : Hid (∀ W, Calls Try.prog 19 #[.agg #[.bool false, .slice A n c, .slice B m d, .slice C k e], .int .i64 fan, .int .u8 2, .bool true] W (SafeEnd v W)) := fun W => by
    have := Safe_any false A B C n c m d k e fan 2 true W (by omega) (by omega)
    rw [hv] at this; exact this
  have HV := Lib.hid hv
  have HBF := Lib.hid hbf
  clear hv hbf
  go_enter Try.func8, Try.ntmps8
  go_wp2_with fail
  refine (large_any false A B C n c m d k e xs _ (HI.out.K.rd.later HB0.out) (by have := HI.out.hn; omega) (by have := HI.out.hm; omega) (by have := HI.out.hk; omega) (fun s hs => by have := HI.out.hs s hs; omega)).mono ?_
  rintro x w1 ⟨rfl, hb⟩
  rw [HL.out]
  have HB1 := Lib.hid (stepB HB0.out hb)
  have b1 := Lib.hid (b0.out.later hb)
  have c1 := b1.out.c4
  clear hb b0 HB0 c0
  go_wp2_with fail
  refine (awake_any _).mono ?_
  rintro x w2 ⟨rfl, hb⟩
  have HB2 := Lib.hid (stepB HB1.out hb)
  have b2 := Lib.hid (b1.out.later hb)
  have c2 := b2.out.c4
  clear hb b1 HB1 c1
  go_wp2_with fail
  refine (May_any false A B C n c m d k e xs _ (HN.out.later HB2.out).K.rd (by have := HN.out.sz; omega) (by have := HN.out.sz; omega) (by have := HN.out.sz; omega)).mono ?_
  rintro x w3 ⟨rfl, hb⟩
  rw [HM.out]
  have HB3 := Lib.hid (stepB HB2.out hb)
  have b3 := Lib.hid (b2.out.later hb)
  have cb3 := b3.out.c4
  clear hb b2 HB2 c2
  go_wp2_with fail
  refine ((put_inner A B C n c m d k e xs ks rs key 1 _ (HN.out.later HB3.out)).mono (fun x w' h => node_of h (n := 0) (m := 0) (k := 0) rfl rfl rfl (by omega))).mono ?_
  rintro x w4 ⟨AP, BP, CP, cP, dP, eP, rfl, hP, hb⟩
  have HB4 := Lib.hid (stepB HB3.out hb)
  have b4 := Lib.hid (b3.out.later hb)
  have cb4 := b4.out.c4
  clear b3 cb3 HB3
  clear hb
  clear hP
  go_upto_region 4 with (fail)
  have HB5 : Hid (Below w.heap.size w (w4.alloc (.cells #[.bool false, .slice AP 0 cP, .slice BP 0 dP, .slice CP 0 eP] 28))) := HB4.out.alloc HB4.out.size _
  have b5 := Lib.hid (b4.out.alloc (.cells #[.bool false, .slice AP 0 cP, .slice BP 0 dP, .slice CP 0 eP] 28))
  have a5 := Lib.hid (Blk.new w4 #[.bool false, .slice AP 0 cP, .slice BP 0 dP, .slice CP 0 eP] 28)
  have na : w.heap.size < w4.heap.size := b4.out.lt
  clear b4 cb4 HB4
  generalize (w4.alloc (.cells #[.bool false, .slice AP 0 cP, .slice BP 0 dP, .slice CP 0 eP] 28)) = w5 at *
  generalize w4.heap.size = Ba at a5 na  ⊢
  have cb5 := b5.out.c4
  have ca5 := a5.out.c4
  go_wp2_with fail
  refine ((graft_ok A B C n c m d k e xs ks rs key kid _ (HN.out.later HB5.out) HM.out HH.out).mono (fun x w' h => node_of h (n := n + 1) (m := m + 1) (k := 0) (len_put _ _ HKL.out HLN.out) (len_put _ _ HN.out.D.len (by have := HNK.out; have := HLN.out; omega)) rfl (by omega))).mono ?_
  rintro x w6 ⟨AG, BG, CG, cG, dG, eG, rfl, hP, hb⟩
  have HB6 := Lib.hid (stepB HB5.out hb)
  have b6 := Lib.hid (b5.out.later hb)
  have a6 := Lib.hid (a5.out.later hb)
  have cb6 := b6.out.c4
  have ca6 := a6.out.c4
  clear b5 cb5 a5 ca5 HB5
  clear hb
  clear hP
  have l6 := a6.out.f4
  go_upto_region 6 with (fail)
  clear l6
  have HB7 : Hid (Below w.heap.size w (((((w6).setCell ⟨Ba, 0, none⟩ (.bool false)).setCell ⟨Ba, 1, none⟩ (.slice AG (n + 1) cG)).setCell ⟨Ba, 2, none⟩ (.slice BG (m + 1) dG)).setCell ⟨Ba, 3, none⟩ (.slice CG 0 eG))) := set4 HB6.out (by omega)
  have b7 := Lib.hid (blk_other4 (g := Ba) (a := .bool false) (b := .slice AG (n + 1) cG) (c := .slice BG (m + 1) dG) (d := .slice CG 0 eG) b6.out (by omega))
  have a7 := Lib.hid (blk_set4 (a := .bool false) (b := .slice AG (n + 1) cG) (c := .slice BG (m + 1) dG) (d := .slice CG 0 eG) a6.out)
  clear b6 cb6 a6 ca6 HB6
  generalize (((((w6).setCell ⟨Ba, 0, none⟩ (.bool false)).setCell ⟨Ba, 1, none⟩ (.slice AG (n + 1) cG)).setCell ⟨Ba, 2, none⟩ (.slice BG (m + 1) dG)).setCell ⟨Ba, 3, none⟩ (.slice CG 0 eG)) = w7 at *
  have cb7 := b7.out.c4
  have ca7 := a7.out.c4
  have K0 : Hid ((SQ w w.heap.size Ba (.bool false) (.slice A n c) (.slice B m d) (.slice C k e) (.bool false) (.slice AG (n + 1) cG) (.slice BG (m + 1) dG) (.slice CG 0 eG)) w7) := ⟨HB7.out, cb7, ca7⟩
  go_region_held3 (SQ w w.heap.size Ba (.bool false) (.slice A n c) (.slice B m d) (.slice C k e) (.bool false) (.slice AG (n + 1) cG) (.slice BG (m + 1) dG) (.slice CG 0 eG)) (repeat (first | with_reducible assumption | with_reducible exact K0.out | with_reducible refine SQ.drew ?_ | with_reducible refine SQ.later ?_ (by with_reducible assumption))) (first
    | (go_at_call 19; refine (HS1.out _).mono ?_; rintro x wS ⟨rfl, hb⟩))
  have hbb : Below w7.heap.size w7 wS := by show Aft _ _; (repeat (first | with_reducible assumption | with_reducible exact Aft.refl _ | with_reducible refine Aft.drew ?_ | with_reducible refine Aft.below ?_ (by with_reducible assumption)))
  rename_i hq0
  clear hq0
  obtain ⟨w8, hw8⟩ : ∃ W, W = wS := ⟨_, rfl⟩
  rw [← hw8] at hbb ⊢
  have HB8 := Lib.hid (stepB HB7.out hbb)
  have b8 := Lib.hid (b7.out.later hbb)
  have a8 := Lib.hid (a7.out.later hbb)
  have cb8 := b8.out.c4
  have ca8 := a8.out.c4
  clear b7 cb7 a7 ca7 HB7
  clear hbb hb hw8 K0
  go_wp2_with fail
  refine (HS2.out _).mono ?_
  rintro x w9 ⟨rfl, hb⟩
  have HB9 := Lib.hid (stepB HB8.out hb)
  have b9 := Lib.hid (b8.out.later hb)
  have a9 := Lib.hid (a8.out.later hb)
  have cb9 := b9.out.c4
  have ca9 := a9.out.c4
  clear b8 cb8 a8 ca8 HB8
  clear hb
  obtain ⟨mt, hmt⟩ : ∃ mt, m = mt + 1 := ⟨m - 1, by have := HNK.out; omega⟩
  obtain ⟨j, hj⟩ : ∃ j : Nat, kid = j := ⟨kid.toNat, by have := Hhc0.out; omega⟩
  have HMT := Lib.hid hmt
  have HJ := Lib.hid hj
  have hjm : j < m := by have := Hhc.out; omega
  have HJM := Lib.hid hjm
  have hvv : decide (1 < mt) = v := by rw [← HV.out]; show _ = (decide (2 < m) || (!true && decide (1 < m))); rw [Bool.not_true, Bool.false_and, Bool.or_false, decide_eq_decide]; omega
  have hvi : decide ((1 : Int) < (mt : Int)) = v := by rw [← hvv, decide_eq_decide]; omega
  clear hmt hj hjm
  cases v
  all_goals (
    go_wp2_with fail
    refine ((cut_any A B C n c m d k e xs ks rs kid j _ (HN.out.later HB9.out) HM.out Hhm1.out HJ.out HJM.out).mono (fun x w' h => node_of h (n := n - 1) (m := mt) (k := 0) (len_cut _ HKL.out (by have := HNK.out; have := HJM.out; have := Hhm1.out; omega) (by have := HNK.out; have := HMT.out; have := Hhm1.out; omega)) (len_cut _ HN.out.D.len HJM.out HMT.out) rfl (by have := HMT.out; omega))).mono ?_
    rintro x w10 ⟨AT, BT, CT, cT, dT, eT, rfl, hP, hb⟩
    have HB10 := Lib.hid (stepB HB9.out hb)
    have b10 := Lib.hid (b9.out.later hb)
    have a10 := Lib.hid (a9.out.later hb)
    have cb10 := b10.out.c4
    have ca10 := a10.out.c4
    clear b9 cb9 a9 ca9 HB9
    clear hb
    clear hP
    go_wp2
    all_goals (go_ret; exact ⟨rfl, HB10.out.alloc HB10.out.size _⟩))
set_option maxRecDepth 100000 in
set_option maxHeartbeats 4000000 in
theorem m_false_not_false_ok (A B C : Option Addr) (n c m d k e : Nat) (xs : List ByteArray) (ks rs : List Int) (key : ByteArray) (fan kid : Int) (w : World) (hI : NdIn w A B C n c m d k e xs ks rs) (hL : largeB xs m k = false) (hk : ¬ 3000 < key.size) (hM : mayB false xs m k = true) (hH : hasB xs key = false) (hm1 : m ≠ 1) (hc0 : ¬ kid < 0) (hc : ¬ (m : Int) ≤ kid) : Calls Try.prog 8 #[.agg #[.bool false, .slice A n c, .slice B m d, .slice C k e], .string key, .int .i64 fan, .int .i64 kid, .bool false] w (fun e w' => e = .returned (.bool true) ∧ Below w.heap.size w w') := by
  have hb0 : Below w.heap.size w (w.alloc (.cells #[.bool false, .slice A n c, .slice B m d, .slice C k e] 28)) := (Below.refl _ _).alloc (Nat.le_refl _) _
  have b0 := Lib.hid (Blk.new w #[.bool false, .slice A n c, .slice B m d, .slice C k e] 28)
  have c0 := b0.out.c4
  have HB0 := Lib.hid hb0
  have HN : Hid (Nd w A B C n c m d k e xs ks rs) := ⟨hI.K, hI.D, hI.R, by have h1 := large_no hL; have h2 := wide_len xs; have h3 := hI.K.len; omega⟩
  have HI := Lib.hid hI
  have HL := Lib.hid hL
  have d1 : decide ((3000 : Int) < (key.size : Int)) = false := decide_eq_false (by omega)
  have HM := Lib.hid hM
  clear hb0 hI hL hk hM
  have HH := Lib.hid hH
  have HT := Lib.hid (may_true HM.out)
  have hz : n + m + k < 3000 := by have h1 := large_no HL.out; have h2 := wide_len xs; have h3 := HN.out.K.len; omega
  have hln := low_le xs key
  rw [HN.out.K.len] at hln
  have HLN := Lib.hid hln
  have HKL := Lib.hid HN.out.K.len
  have hnk : m = n + 1 := by have h := HT.out; rw [if_neg (by decide)] at h; have := HKL.out; omega
  have HNK := Lib.hid hnk
  have Hhc := Lib.hid hc
  have Hhm1 := Lib.hid hm1
  have Hhc0 := Lib.hid hc0
  clear hH hln hnk hc hm1 hc0
  obtain ⟨bf, hbf⟩ : ∃ bf, decide ((n : Int) < fan) = bf := ⟨_, rfl⟩
  have e1 : decide ((n : Int) + 1 ≤ fan) = bf := by rw [← hbf, decide_eq_decide]; omega
  obtain ⟨v, hv⟩ : ∃ v, safeB false n m fan 2 false = v := ⟨_, rfl⟩
  have HS1 : Hid (∀ W, Calls Try.prog 19 #[.agg #[.bool false, .slice A n c, .slice B m d, .slice C k e], .int .i64 fan, .int .u8 1, .bool false] W (SafeEnd bf W)) := fun W => by
    have := Safe_any false A B C n c m d k e fan 1 false W (by omega) (by omega)
    rw [show safeB false n m fan 1 false = bf from hbf] at this; exact this
  have HS2 : Hid (∀ W, Calls Try.prog 19 #[.agg #[.bool false, .slice A n c, .slice B m d, .slice C k e], .int .i64 fan, .int .u8 2, .bool false] W (SafeEnd v W)) := fun W => by
    have := Safe_any false A B C n c m d k e fan 2 false W (by omega) (by omega)
    rw [hv] at this; exact this
  have HV := Lib.hid hv
  have HBF := Lib.hid hbf
  clear hv hbf
  go_enter Try.func8, Try.ntmps8
  go_wp2_with fail
  refine (large_any false A B C n c m d k e xs _ (HI.out.K.rd.later HB0.out) (by have := HI.out.hn; omega) (by have := HI.out.hm; omega) (by have := HI.out.hk; omega) (fun s hs => by have := HI.out.hs s hs; omega)).mono ?_
  rintro x w1 ⟨rfl, hb⟩
  rw [HL.out]
  have HB1 := Lib.hid (stepB HB0.out hb)
  have b1 := Lib.hid (b0.out.later hb)
  have c1 := b1.out.c4
  clear hb b0 HB0 c0
  go_wp2_with fail
  refine (awake_any _).mono ?_
  rintro x w2 ⟨rfl, hb⟩
  have HB2 := Lib.hid (stepB HB1.out hb)
  have b2 := Lib.hid (b1.out.later hb)
  have c2 := b2.out.c4
  clear hb b1 HB1 c1
  go_wp2_with fail
  refine (May_any false A B C n c m d k e xs _ (HN.out.later HB2.out).K.rd (by have := HN.out.sz; omega) (by have := HN.out.sz; omega) (by have := HN.out.sz; omega)).mono ?_
  rintro x w3 ⟨rfl, hb⟩
  rw [HM.out]
  have HB3 := Lib.hid (stepB HB2.out hb)
  have b3 := Lib.hid (b2.out.later hb)
  have cb3 := b3.out.c4
  clear hb b2 HB2 c2
  go_wp2_with fail
  refine ((put_inner A B C n c m d k e xs ks rs key 1 _ (HN.out.later HB3.out)).mono (fun x w' h => node_of h (n := 0) (m := 0) (k := 0) rfl rfl rfl (by omega))).mono ?_
  rintro x w4 ⟨AP, BP, CP, cP, dP, eP, rfl, hP, hb⟩
  have HB4 := Lib.hid (stepB HB3.out hb)
  have b4 := Lib.hid (b3.out.later hb)
  have cb4 := b4.out.c4
  clear b3 cb3 HB3
  clear hb
  clear hP
  go_upto_region 4 with (fail)
  have HB5 : Hid (Below w.heap.size w (w4.alloc (.cells #[.bool false, .slice AP 0 cP, .slice BP 0 dP, .slice CP 0 eP] 28))) := HB4.out.alloc HB4.out.size _
  have b5 := Lib.hid (b4.out.alloc (.cells #[.bool false, .slice AP 0 cP, .slice BP 0 dP, .slice CP 0 eP] 28))
  have a5 := Lib.hid (Blk.new w4 #[.bool false, .slice AP 0 cP, .slice BP 0 dP, .slice CP 0 eP] 28)
  have na : w.heap.size < w4.heap.size := b4.out.lt
  clear b4 cb4 HB4
  generalize (w4.alloc (.cells #[.bool false, .slice AP 0 cP, .slice BP 0 dP, .slice CP 0 eP] 28)) = w5 at *
  generalize w4.heap.size = Ba at a5 na  ⊢
  have cb5 := b5.out.c4
  have ca5 := a5.out.c4
  go_wp2_with fail
  refine ((graft_ok A B C n c m d k e xs ks rs key kid _ (HN.out.later HB5.out) HM.out HH.out).mono (fun x w' h => node_of h (n := n + 1) (m := m + 1) (k := 0) (len_put _ _ HKL.out HLN.out) (len_put _ _ HN.out.D.len (by have := HNK.out; have := HLN.out; omega)) rfl (by omega))).mono ?_
  rintro x w6 ⟨AG, BG, CG, cG, dG, eG, rfl, hP, hb⟩
  have HB6 := Lib.hid (stepB HB5.out hb)
  have b6 := Lib.hid (b5.out.later hb)
  have a6 := Lib.hid (a5.out.later hb)
  have cb6 := b6.out.c4
  have ca6 := a6.out.c4
  clear b5 cb5 a5 ca5 HB5
  clear hb
  clear hP
  have l6 := a6.out.f4
  go_upto_region 6 with (fail)
  clear l6
  have HB7 : Hid (Below w.heap.size w (((((w6).setCell ⟨Ba, 0, none⟩ (.bool false)).setCell ⟨Ba, 1, none⟩ (.slice AG (n + 1) cG)).setCell ⟨Ba, 2, none⟩ (.slice BG (m + 1) dG)).setCell ⟨Ba, 3, none⟩ (.slice CG 0 eG))) := set4 HB6.out (by omega)
  have b7 := Lib.hid (blk_other4 (g := Ba) (a := .bool false) (b := .slice AG (n + 1) cG) (c := .slice BG (m + 1) dG) (d := .slice CG 0 eG) b6.out (by omega))
  have a7 := Lib.hid (blk_set4 (a := .bool false) (b := .slice AG (n + 1) cG) (c := .slice BG (m + 1) dG) (d := .slice CG 0 eG) a6.out)
  clear b6 cb6 a6 ca6 HB6
  generalize (((((w6).setCell ⟨Ba, 0, none⟩ (.bool false)).setCell ⟨Ba, 1, none⟩ (.slice AG (n + 1) cG)).setCell ⟨Ba, 2, none⟩ (.slice BG (m + 1) dG)).setCell ⟨Ba, 3, none⟩ (.slice CG 0 eG)) = w7 at *
  have cb7 := b7.out.c4
  have ca7 := a7.out.c4
  have K0 : Hid ((SQ w w.heap.size Ba (.bool false) (.slice A n c) (.slice B m d) (.slice C k e) (.bool false) (.slice AG (n + 1) cG) (.slice BG (m + 1) dG) (.slice CG 0 eG)) w7) := ⟨HB7.out, cb7, ca7⟩
  go_region_held3 (SQ w w.heap.size Ba (.bool false) (.slice A n c) (.slice B m d) (.slice C k e) (.bool false) (.slice AG (n + 1) cG) (.slice BG (m + 1) dG) (.slice CG 0 eG)) (repeat (first | with_reducible assumption | with_reducible exact K0.out | with_reducible refine SQ.drew ?_ | with_reducible refine SQ.later ?_ (by with_reducible assumption))) (first
    | (go_at_call 19; refine (HS1.out _).mono ?_; rintro x wS ⟨rfl, hb⟩))
  have hbb : Below w7.heap.size w7 wS := by show Aft _ _; (repeat (first | with_reducible assumption | with_reducible exact Aft.refl _ | with_reducible refine Aft.drew ?_ | with_reducible refine Aft.below ?_ (by with_reducible assumption)))
  rename_i hq0
  clear hq0
  obtain ⟨w8, hw8⟩ : ∃ W, W = wS := ⟨_, rfl⟩
  rw [← hw8] at hbb ⊢
  have HB8 := Lib.hid (stepB HB7.out hbb)
  have b8 := Lib.hid (b7.out.later hbb)
  have a8 := Lib.hid (a7.out.later hbb)
  have cb8 := b8.out.c4
  have ca8 := a8.out.c4
  clear b7 cb7 a7 ca7 HB7
  clear hbb hb hw8 K0
  go_wp2_with fail
  refine (HS2.out _).mono ?_
  rintro x w9 ⟨rfl, hb⟩
  have HB9 := Lib.hid (stepB HB8.out hb)
  have b9 := Lib.hid (b8.out.later hb)
  have a9 := Lib.hid (a8.out.later hb)
  have cb9 := b9.out.c4
  have ca9 := a9.out.c4
  clear b8 cb8 a8 ca8 HB8
  clear hb
  obtain ⟨mt, hmt⟩ : ∃ mt, m = mt + 1 := ⟨m - 1, by have := HNK.out; omega⟩
  obtain ⟨j, hj⟩ : ∃ j : Nat, kid = j := ⟨kid.toNat, by have := Hhc0.out; omega⟩
  have HMT := Lib.hid hmt
  have HJ := Lib.hid hj
  have hjm : j < m := by have := Hhc.out; omega
  have HJM := Lib.hid hjm
  have hvv : v = true := by rw [← HV.out]; show (decide (2 < m) || (!false && decide (1 < m))) = true; rw [decide_eq_true (show 1 < m by have := Hhm1.out; omega)]; simp
  subst hvv
  have hv0 : 0 < mt := by have := Hhm1.out; omega
  clear hmt hj hjm
  go_wp2_with fail
  refine ((cut_any A B C n c m d k e xs ks rs kid j _ (HN.out.later HB9.out) HM.out Hhm1.out HJ.out HJM.out).mono (fun x w' h => node_of h (n := n - 1) (m := mt) (k := 0) (len_cut _ HKL.out (by have := HNK.out; have := HJM.out; have := Hhm1.out; omega) (by have := HNK.out; have := HMT.out; have := Hhm1.out; omega)) (len_cut _ HN.out.D.len HJM.out HMT.out) rfl (by have := HMT.out; omega))).mono ?_
  rintro x w10 ⟨AT, BT, CT, cT, dT, eT, rfl, hP, hb⟩
  have HB10 := Lib.hid (stepB HB9.out hb)
  have b10 := Lib.hid (b9.out.later hb)
  have a10 := Lib.hid (a9.out.later hb)
  have cb10 := b10.out.c4
  have ca10 := a10.out.c4
  clear b9 cb9 a9 ca9 HB9
  clear hb
  clear hP
  go_wp2
  all_goals (go_ret; exact ⟨rfl, HB10.out.alloc HB10.out.size _⟩)
set_option maxRecDepth 100000 in
set_option maxHeartbeats 4000000 in
theorem m_false_has_one (A B C : Option Addr) (n c m d k e : Nat) (xs : List ByteArray) (ks rs : List Int) (key : ByteArray) (fan kid : Int) (root : Bool) (w : World) (hI : NdIn w A B C n c m d k e xs ks rs) (hL : largeB xs m k = false) (hk : ¬ 3000 < key.size) (hM : mayB false xs m k = true) (hH : hasB xs key = true) (hc : m = 1) : Calls Try.prog 8 #[.agg #[.bool false, .slice A n c, .slice B m d, .slice C k e], .string key, .int .i64 fan, .int .i64 kid, .bool root] w (fun e w' => e = .returned (.bool true) ∧ Below w.heap.size w w') := by
  have hb0 : Below w.heap.size w (w.alloc (.cells #[.bool false, .slice A n c, .slice B m d, .slice C k e] 28)) := (Below.refl _ _).alloc (Nat.le_refl _) _
  have b0 := Lib.hid (Blk.new w #[.bool false, .slice A n c, .slice B m d, .slice C k e] 28)
  have c0 := b0.out.c4
  have HB0 := Lib.hid hb0
  have HN : Hid (Nd w A B C n c m d k e xs ks rs) := ⟨hI.K, hI.D, hI.R, by have h1 := large_no hL; have h2 := wide_len xs; have h3 := hI.K.len; omega⟩
  have HI := Lib.hid hI
  have HL := Lib.hid hL
  have d1 : decide ((3000 : Int) < (key.size : Int)) = false := decide_eq_false (by omega)
  have HM := Lib.hid hM
  clear hb0 hI hL hk hM
  have HH := Lib.hid hH
  have HT := Lib.hid (may_true HM.out)
  have hz : n + m + k < 3000 := by have h1 := large_no HL.out; have h2 := wide_len xs; have h3 := HN.out.K.len; omega
  have hln := low_le xs key
  rw [HN.out.K.len] at hln
  have HLN := Lib.hid hln
  have HKL := Lib.hid HN.out.K.len
  have hnk : m = n + 1 := by have h := HT.out; rw [if_neg (by decide)] at h; have := HKL.out; omega
  have HNK := Lib.hid hnk
  have Hhc := Lib.hid hc
  clear hH hln hnk hc
  obtain ⟨bf, hbf⟩ : ∃ bf, decide ((n : Int) < fan) = bf := ⟨_, rfl⟩
  have e1 : decide ((n : Int) + 1 ≤ fan) = bf := by rw [← hbf, decide_eq_decide]; omega
  obtain ⟨v, hv⟩ : ∃ v, safeB false n m fan 2 root = v := ⟨_, rfl⟩
  have HS1 : Hid (∀ W, Calls Try.prog 19 #[.agg #[.bool false, .slice A n c, .slice B m d, .slice C k e], .int .i64 fan, .int .u8 1, .bool root] W (SafeEnd bf W)) := fun W => by
    have := Safe_any false A B C n c m d k e fan 1 root W (by omega) (by omega)
    rw [show safeB false n m fan 1 root = bf from hbf] at this; exact this
  have HS2 : Hid (∀ W, Calls Try.prog 19 #[.agg #[.bool false, .slice A n c, .slice B m d, .slice C k e], .int .i64 fan, .int .u8 2, .bool root] W (SafeEnd v W)) := fun W => by
    have := Safe_any false A B C n c m d k e fan 2 root W (by omega) (by omega)
    rw [hv] at this; exact this
  have HV := Lib.hid hv
  have HBF := Lib.hid hbf
  clear hv hbf
  go_enter Try.func8, Try.ntmps8
  go_wp2_with fail
  refine (large_any false A B C n c m d k e xs _ (HI.out.K.rd.later HB0.out) (by have := HI.out.hn; omega) (by have := HI.out.hm; omega) (by have := HI.out.hk; omega) (fun s hs => by have := HI.out.hs s hs; omega)).mono ?_
  rintro x w1 ⟨rfl, hb⟩
  rw [HL.out]
  have HB1 := Lib.hid (stepB HB0.out hb)
  have b1 := Lib.hid (b0.out.later hb)
  have c1 := b1.out.c4
  clear hb b0 HB0 c0
  go_wp2_with fail
  refine (awake_any _).mono ?_
  rintro x w2 ⟨rfl, hb⟩
  have HB2 := Lib.hid (stepB HB1.out hb)
  have b2 := Lib.hid (b1.out.later hb)
  have c2 := b2.out.c4
  clear hb b1 HB1 c1
  go_wp2_with fail
  refine (May_any false A B C n c m d k e xs _ (HN.out.later HB2.out).K.rd (by have := HN.out.sz; omega) (by have := HN.out.sz; omega) (by have := HN.out.sz; omega)).mono ?_
  rintro x w3 ⟨rfl, hb⟩
  rw [HM.out]
  have HB3 := Lib.hid (stepB HB2.out hb)
  have b3 := Lib.hid (b2.out.later hb)
  have cb3 := b3.out.c4
  clear hb b2 HB2 c2
  go_wp2_with fail
  refine ((put_inner A B C n c m d k e xs ks rs key 1 _ (HN.out.later HB3.out)).mono (fun x w' h => node_of h (n := 0) (m := 0) (k := 0) rfl rfl rfl (by omega))).mono ?_
  rintro x w4 ⟨AP, BP, CP, cP, dP, eP, rfl, hP, hb⟩
  have HB4 := Lib.hid (stepB HB3.out hb)
  have b4 := Lib.hid (b3.out.later hb)
  have cb4 := b4.out.c4
  clear b3 cb3 HB3
  clear hb
  clear hP
  go_upto_region 4 with (fail)
  have HB5 : Hid (Below w.heap.size w (w4.alloc (.cells #[.bool false, .slice AP 0 cP, .slice BP 0 dP, .slice CP 0 eP] 28))) := HB4.out.alloc HB4.out.size _
  have b5 := Lib.hid (b4.out.alloc (.cells #[.bool false, .slice AP 0 cP, .slice BP 0 dP, .slice CP 0 eP] 28))
  have a5 := Lib.hid (Blk.new w4 #[.bool false, .slice AP 0 cP, .slice BP 0 dP, .slice CP 0 eP] 28)
  have na : w.heap.size < w4.heap.size := b4.out.lt
  clear b4 cb4 HB4
  generalize (w4.alloc (.cells #[.bool false, .slice AP 0 cP, .slice BP 0 dP, .slice CP 0 eP] 28)) = w5 at *
  generalize w4.heap.size = Ba at a5 na  ⊢
  have cb5 := b5.out.c4
  have ca5 := a5.out.c4
  go_wp2_with fail
  refine ((graft_twice A B C n c m d k e xs ks rs key kid _ (HN.out.later HB5.out) HM.out HH.out).mono (fun x w' h => node_of h (n := 0) (m := 0) (k := 0) rfl rfl rfl (by omega))).mono ?_
  rintro x w6 ⟨AG, BG, CG, cG, dG, eG, rfl, hP, hb⟩
  have HB6 := Lib.hid (stepB HB5.out hb)
  have b6 := Lib.hid (b5.out.later hb)
  have a6 := Lib.hid (a5.out.later hb)
  have cb6 := b6.out.c4
  have ca6 := a6.out.c4
  clear b5 cb5 a5 ca5 HB5
  clear hb
  clear hP
  have l6 := a6.out.f4
  go_upto_region 6 with (fail)
  clear l6
  have HB7 : Hid (Below w.heap.size w (((((w6).setCell ⟨Ba, 0, none⟩ (.bool false)).setCell ⟨Ba, 1, none⟩ (.slice AG 0 cG)).setCell ⟨Ba, 2, none⟩ (.slice BG 0 dG)).setCell ⟨Ba, 3, none⟩ (.slice CG 0 eG))) := set4 HB6.out (by omega)
  have b7 := Lib.hid (blk_other4 (g := Ba) (a := .bool false) (b := .slice AG 0 cG) (c := .slice BG 0 dG) (d := .slice CG 0 eG) b6.out (by omega))
  have a7 := Lib.hid (blk_set4 (a := .bool false) (b := .slice AG 0 cG) (c := .slice BG 0 dG) (d := .slice CG 0 eG) a6.out)
  clear b6 cb6 a6 ca6 HB6
  generalize (((((w6).setCell ⟨Ba, 0, none⟩ (.bool false)).setCell ⟨Ba, 1, none⟩ (.slice AG 0 cG)).setCell ⟨Ba, 2, none⟩ (.slice BG 0 dG)).setCell ⟨Ba, 3, none⟩ (.slice CG 0 eG)) = w7 at *
  have cb7 := b7.out.c4
  have ca7 := a7.out.c4
  go_quiet (fail)
  obtain ⟨w8, hw8⟩ : ∃ W, W = w7.drewN nq := ⟨_, rfl⟩
  have hb : Below w7.heap.size w7 w8 := by rw [hw8]; exact below_drewN (Below.refl _ _) _
  rw [← hw8]
  have HB8 := Lib.hid (stepB HB7.out hb)
  have b8 := Lib.hid (b7.out.later hb)
  have a8 := Lib.hid (a7.out.later hb)
  have cb8 := b8.out.c4
  have ca8 := a8.out.c4
  clear b7 cb7 a7 ca7 HB7
  clear hb hw8
  go_wp2_with fail
  refine (HS2.out _).mono ?_
  rintro x w9 ⟨rfl, hb⟩
  have HB9 := Lib.hid (stepB HB8.out hb)
  have b9 := Lib.hid (b8.out.later hb)
  have a9 := Lib.hid (a8.out.later hb)
  have cb9 := b9.out.c4
  have ca9 := a9.out.c4
  clear b8 cb8 a8 ca8 HB8
  clear hb
  have hvv : v = false := by rw [← HV.out, Hhc.out]; cases root <;> rfl
  subst hvv
  have dm : decide ((1 : Int) < (m : Int)) = false := decide_eq_false (by have := Hhc.out; omega)
  have dn : decide (1 < m) = false := decide_eq_false (by have := Hhc.out; omega)
  go_wp2_with fail
  refine ((cut_one A B C n c m d k e xs ks rs kid _ (HN.out.later HB9.out) HM.out Hhc.out).mono (fun x w' h => node_of h (n := 0) (m := 0) (k := 0) rfl rfl rfl (by omega))).mono ?_
  rintro x w10 ⟨AT, BT, CT, cT, dT, eT, rfl, hP, hb⟩
  have HB10 := Lib.hid (stepB HB9.out hb)
  have b10 := Lib.hid (b9.out.later hb)
  have a10 := Lib.hid (a9.out.later hb)
  have cb10 := b10.out.c4
  have ca10 := a10.out.c4
  clear b9 cb9 a9 ca9 HB9
  clear hb
  clear hP
  have nb := b10.out.lt
  have nc : ¬ w.heap.size = w10.heap.size := by omega
  go_wp2
  all_goals (go_ret; exact ⟨rfl, HB10.out.alloc HB10.out.size _⟩)
set_option maxRecDepth 100000 in
set_option maxHeartbeats 4000000 in
theorem m_false_has_low (A B C : Option Addr) (n c m d k e : Nat) (xs : List ByteArray) (ks rs : List Int) (key : ByteArray) (fan kid : Int) (root : Bool) (w : World) (hI : NdIn w A B C n c m d k e xs ks rs) (hL : largeB xs m k = false) (hk : ¬ 3000 < key.size) (hM : mayB false xs m k = true) (hH : hasB xs key = true) (hm1 : m ≠ 1) (hc : kid < 0) : Calls Try.prog 8 #[.agg #[.bool false, .slice A n c, .slice B m d, .slice C k e], .string key, .int .i64 fan, .int .i64 kid, .bool root] w (fun e w' => e = .returned (.bool true) ∧ Below w.heap.size w w') := by
  have hb0 : Below w.heap.size w (w.alloc (.cells #[.bool false, .slice A n c, .slice B m d, .slice C k e] 28)) := (Below.refl _ _).alloc (Nat.le_refl _) _
  have b0 := Lib.hid (Blk.new w #[.bool false, .slice A n c, .slice B m d, .slice C k e] 28)
  have c0 := b0.out.c4
  have HB0 := Lib.hid hb0
  have HN : Hid (Nd w A B C n c m d k e xs ks rs) := ⟨hI.K, hI.D, hI.R, by have h1 := large_no hL; have h2 := wide_len xs; have h3 := hI.K.len; omega⟩
  have HI := Lib.hid hI
  have HL := Lib.hid hL
  have d1 : decide ((3000 : Int) < (key.size : Int)) = false := decide_eq_false (by omega)
  have HM := Lib.hid hM
  clear hb0 hI hL hk hM
  have HH := Lib.hid hH
  have HT := Lib.hid (may_true HM.out)
  have hz : n + m + k < 3000 := by have h1 := large_no HL.out; have h2 := wide_len xs; have h3 := HN.out.K.len; omega
  have hln := low_le xs key
  rw [HN.out.K.len] at hln
  have HLN := Lib.hid hln
  have HKL := Lib.hid HN.out.K.len
  have hnk : m = n + 1 := by have h := HT.out; rw [if_neg (by decide)] at h; have := HKL.out; omega
  have HNK := Lib.hid hnk
  have Hhc := Lib.hid hc
  have Hhm1 := Lib.hid hm1
  clear hH hln hnk hc hm1
  obtain ⟨bf, hbf⟩ : ∃ bf, decide ((n : Int) < fan) = bf := ⟨_, rfl⟩
  have e1 : decide ((n : Int) + 1 ≤ fan) = bf := by rw [← hbf, decide_eq_decide]; omega
  obtain ⟨v, hv⟩ : ∃ v, safeB false n m fan 2 root = v := ⟨_, rfl⟩
  have HS1 : Hid (∀ W, Calls Try.prog 19 #[.agg #[.bool false, .slice A n c, .slice B m d, .slice C k e], .int .i64 fan, .int .u8 1, .bool root] W (SafeEnd bf W)) := fun W => by
    have := Safe_any false A B C n c m d k e fan 1 root W (by omega) (by omega)
    rw [show safeB false n m fan 1 root = bf from hbf] at this; exact this
  have HS2 : Hid (∀ W, Calls Try.prog 19 #[.agg #[.bool false, .slice A n c, .slice B m d, .slice C k e], .int .i64 fan, .int .u8 2, .bool root] W (SafeEnd v W)) := fun W => by
    have := Safe_any false A B C n c m d k e fan 2 root W (by omega) (by omega)
    rw [hv] at this; exact this
  have HV := Lib.hid hv
  have HBF := Lib.hid hbf
  clear hv hbf
  go_enter Try.func8, Try.ntmps8
  go_wp2_with fail
  refine (large_any false A B C n c m d k e xs _ (HI.out.K.rd.later HB0.out) (by have := HI.out.hn; omega) (by have := HI.out.hm; omega) (by have := HI.out.hk; omega) (fun s hs => by have := HI.out.hs s hs; omega)).mono ?_
  rintro x w1 ⟨rfl, hb⟩
  rw [HL.out]
  have HB1 := Lib.hid (stepB HB0.out hb)
  have b1 := Lib.hid (b0.out.later hb)
  have c1 := b1.out.c4
  clear hb b0 HB0 c0
  go_wp2_with fail
  refine (awake_any _).mono ?_
  rintro x w2 ⟨rfl, hb⟩
  have HB2 := Lib.hid (stepB HB1.out hb)
  have b2 := Lib.hid (b1.out.later hb)
  have c2 := b2.out.c4
  clear hb b1 HB1 c1
  go_wp2_with fail
  refine (May_any false A B C n c m d k e xs _ (HN.out.later HB2.out).K.rd (by have := HN.out.sz; omega) (by have := HN.out.sz; omega) (by have := HN.out.sz; omega)).mono ?_
  rintro x w3 ⟨rfl, hb⟩
  rw [HM.out]
  have HB3 := Lib.hid (stepB HB2.out hb)
  have b3 := Lib.hid (b2.out.later hb)
  have cb3 := b3.out.c4
  clear hb b2 HB2 c2
  go_wp2_with fail
  refine ((put_inner A B C n c m d k e xs ks rs key 1 _ (HN.out.later HB3.out)).mono (fun x w' h => node_of h (n := 0) (m := 0) (k := 0) rfl rfl rfl (by omega))).mono ?_
  rintro x w4 ⟨AP, BP, CP, cP, dP, eP, rfl, hP, hb⟩
  have HB4 := Lib.hid (stepB HB3.out hb)
  have b4 := Lib.hid (b3.out.later hb)
  have cb4 := b4.out.c4
  clear b3 cb3 HB3
  clear hb
  clear hP
  go_upto_region 4 with (fail)
  have HB5 : Hid (Below w.heap.size w (w4.alloc (.cells #[.bool false, .slice AP 0 cP, .slice BP 0 dP, .slice CP 0 eP] 28))) := HB4.out.alloc HB4.out.size _
  have b5 := Lib.hid (b4.out.alloc (.cells #[.bool false, .slice AP 0 cP, .slice BP 0 dP, .slice CP 0 eP] 28))
  have a5 := Lib.hid (Blk.new w4 #[.bool false, .slice AP 0 cP, .slice BP 0 dP, .slice CP 0 eP] 28)
  have na : w.heap.size < w4.heap.size := b4.out.lt
  clear b4 cb4 HB4
  generalize (w4.alloc (.cells #[.bool false, .slice AP 0 cP, .slice BP 0 dP, .slice CP 0 eP] 28)) = w5 at *
  generalize w4.heap.size = Ba at a5 na  ⊢
  have cb5 := b5.out.c4
  have ca5 := a5.out.c4
  go_wp2_with fail
  refine ((graft_twice A B C n c m d k e xs ks rs key kid _ (HN.out.later HB5.out) HM.out HH.out).mono (fun x w' h => node_of h (n := 0) (m := 0) (k := 0) rfl rfl rfl (by omega))).mono ?_
  rintro x w6 ⟨AG, BG, CG, cG, dG, eG, rfl, hP, hb⟩
  have HB6 := Lib.hid (stepB HB5.out hb)
  have b6 := Lib.hid (b5.out.later hb)
  have a6 := Lib.hid (a5.out.later hb)
  have cb6 := b6.out.c4
  have ca6 := a6.out.c4
  clear b5 cb5 a5 ca5 HB5
  clear hb
  clear hP
  have l6 := a6.out.f4
  go_upto_region 6 with (fail)
  clear l6
  have HB7 : Hid (Below w.heap.size w (((((w6).setCell ⟨Ba, 0, none⟩ (.bool false)).setCell ⟨Ba, 1, none⟩ (.slice AG 0 cG)).setCell ⟨Ba, 2, none⟩ (.slice BG 0 dG)).setCell ⟨Ba, 3, none⟩ (.slice CG 0 eG))) := set4 HB6.out (by omega)
  have b7 := Lib.hid (blk_other4 (g := Ba) (a := .bool false) (b := .slice AG 0 cG) (c := .slice BG 0 dG) (d := .slice CG 0 eG) b6.out (by omega))
  have a7 := Lib.hid (blk_set4 (a := .bool false) (b := .slice AG 0 cG) (c := .slice BG 0 dG) (d := .slice CG 0 eG) a6.out)
  clear b6 cb6 a6 ca6 HB6
  generalize (((((w6).setCell ⟨Ba, 0, none⟩ (.bool false)).setCell ⟨Ba, 1, none⟩ (.slice AG 0 cG)).setCell ⟨Ba, 2, none⟩ (.slice BG 0 dG)).setCell ⟨Ba, 3, none⟩ (.slice CG 0 eG)) = w7 at *
  have cb7 := b7.out.c4
  have ca7 := a7.out.c4
  go_quiet (fail)
  obtain ⟨w8, hw8⟩ : ∃ W, W = w7.drewN nq := ⟨_, rfl⟩
  have hb : Below w7.heap.size w7 w8 := by rw [hw8]; exact below_drewN (Below.refl _ _) _
  rw [← hw8]
  have HB8 := Lib.hid (stepB HB7.out hb)
  have b8 := Lib.hid (b7.out.later hb)
  have a8 := Lib.hid (a7.out.later hb)
  have cb8 := b8.out.c4
  have ca8 := a8.out.c4
  clear b7 cb7 a7 ca7 HB7
  clear hb hw8
  go_wp2_with fail
  refine (HS2.out _).mono ?_
  rintro x w9 ⟨rfl, hb⟩
  have HB9 := Lib.hid (stepB HB8.out hb)
  have b9 := Lib.hid (b8.out.later hb)
  have a9 := Lib.hid (a8.out.later hb)
  have cb9 := b9.out.c4
  have ca9 := a9.out.c4
  clear b8 cb8 a8 ca8 HB8
  clear hb
  have dm : decide ((1 : Int) < (m : Int)) = true := decide_eq_true (by have := Hhm1.out; have := HNK.out; omega)
  have dn : decide (1 < m) = true := decide_eq_true (by have := Hhm1.out; have := HNK.out; omega)
  go_wp2_with fail
  refine ((cut_none_low A B C n c m d k e xs ks rs kid _ (HN.out.later HB9.out) HM.out Hhm1.out Hhc.out).mono (fun x w' h => node_of h (n := 0) (m := 0) (k := 0) rfl rfl rfl (by omega))).mono ?_
  rintro x w10 ⟨AT, BT, CT, cT, dT, eT, rfl, hP, hb⟩
  have HB10 := Lib.hid (stepB HB9.out hb)
  have b10 := Lib.hid (b9.out.later hb)
  have a10 := Lib.hid (a9.out.later hb)
  have cb10 := b10.out.c4
  have ca10 := a10.out.c4
  clear b9 cb9 a9 ca9 HB9
  clear hb
  clear hP
  have nb := b10.out.lt
  have nc : ¬ w.heap.size = w10.heap.size := by omega
  go_wp2
  all_goals (go_ret; exact ⟨rfl, HB10.out.alloc HB10.out.size _⟩)
set_option maxRecDepth 100000 in
set_option maxHeartbeats 4000000 in
theorem m_false_has_high (A B C : Option Addr) (n c m d k e : Nat) (xs : List ByteArray) (ks rs : List Int) (key : ByteArray) (fan kid : Int) (root : Bool) (w : World) (hI : NdIn w A B C n c m d k e xs ks rs) (hL : largeB xs m k = false) (hk : ¬ 3000 < key.size) (hM : mayB false xs m k = true) (hH : hasB xs key = true) (hm1 : m ≠ 1) (hc : (m : Int) ≤ kid) : Calls Try.prog 8 #[.agg #[.bool false, .slice A n c, .slice B m d, .slice C k e], .string key, .int .i64 fan, .int .i64 kid, .bool root] w (fun e w' => e = .returned (.bool true) ∧ Below w.heap.size w w') := by
  have hb0 : Below w.heap.size w (w.alloc (.cells #[.bool false, .slice A n c, .slice B m d, .slice C k e] 28)) := (Below.refl _ _).alloc (Nat.le_refl _) _
  have b0 := Lib.hid (Blk.new w #[.bool false, .slice A n c, .slice B m d, .slice C k e] 28)
  have c0 := b0.out.c4
  have HB0 := Lib.hid hb0
  have HN : Hid (Nd w A B C n c m d k e xs ks rs) := ⟨hI.K, hI.D, hI.R, by have h1 := large_no hL; have h2 := wide_len xs; have h3 := hI.K.len; omega⟩
  have HI := Lib.hid hI
  have HL := Lib.hid hL
  have d1 : decide ((3000 : Int) < (key.size : Int)) = false := decide_eq_false (by omega)
  have HM := Lib.hid hM
  clear hb0 hI hL hk hM
  have HH := Lib.hid hH
  have HT := Lib.hid (may_true HM.out)
  have hz : n + m + k < 3000 := by have h1 := large_no HL.out; have h2 := wide_len xs; have h3 := HN.out.K.len; omega
  have hln := low_le xs key
  rw [HN.out.K.len] at hln
  have HLN := Lib.hid hln
  have HKL := Lib.hid HN.out.K.len
  have hnk : m = n + 1 := by have h := HT.out; rw [if_neg (by decide)] at h; have := HKL.out; omega
  have HNK := Lib.hid hnk
  have Hhc := Lib.hid hc
  have Hhm1 := Lib.hid hm1
  clear hH hln hnk hc hm1
  obtain ⟨bf, hbf⟩ : ∃ bf, decide ((n : Int) < fan) = bf := ⟨_, rfl⟩
  have e1 : decide ((n : Int) + 1 ≤ fan) = bf := by rw [← hbf, decide_eq_decide]; omega
  obtain ⟨v, hv⟩ : ∃ v, safeB false n m fan 2 root = v := ⟨_, rfl⟩
  have HS1 : Hid (∀ W, Calls Try.prog 19 #[.agg #[.bool false, .slice A n c, .slice B m d, .slice C k e], .int .i64 fan, .int .u8 1, .bool root] W (SafeEnd bf W)) := fun W => by
    have := Safe_any false A B C n c m d k e fan 1 root W (by omega) (by omega)
    rw [show safeB false n m fan 1 root = bf from hbf] at this; exact this
  have HS2 : Hid (∀ W, Calls Try.prog 19 #[.agg #[.bool false, .slice A n c, .slice B m d, .slice C k e], .int .i64 fan, .int .u8 2, .bool root] W (SafeEnd v W)) := fun W => by
    have := Safe_any false A B C n c m d k e fan 2 root W (by omega) (by omega)
    rw [hv] at this; exact this
  have HV := Lib.hid hv
  have HBF := Lib.hid hbf
  clear hv hbf
  go_enter Try.func8, Try.ntmps8
  go_wp2_with fail
  refine (large_any false A B C n c m d k e xs _ (HI.out.K.rd.later HB0.out) (by have := HI.out.hn; omega) (by have := HI.out.hm; omega) (by have := HI.out.hk; omega) (fun s hs => by have := HI.out.hs s hs; omega)).mono ?_
  rintro x w1 ⟨rfl, hb⟩
  rw [HL.out]
  have HB1 := Lib.hid (stepB HB0.out hb)
  have b1 := Lib.hid (b0.out.later hb)
  have c1 := b1.out.c4
  clear hb b0 HB0 c0
  go_wp2_with fail
  refine (awake_any _).mono ?_
  rintro x w2 ⟨rfl, hb⟩
  have HB2 := Lib.hid (stepB HB1.out hb)
  have b2 := Lib.hid (b1.out.later hb)
  have c2 := b2.out.c4
  clear hb b1 HB1 c1
  go_wp2_with fail
  refine (May_any false A B C n c m d k e xs _ (HN.out.later HB2.out).K.rd (by have := HN.out.sz; omega) (by have := HN.out.sz; omega) (by have := HN.out.sz; omega)).mono ?_
  rintro x w3 ⟨rfl, hb⟩
  rw [HM.out]
  have HB3 := Lib.hid (stepB HB2.out hb)
  have b3 := Lib.hid (b2.out.later hb)
  have cb3 := b3.out.c4
  clear hb b2 HB2 c2
  go_wp2_with fail
  refine ((put_inner A B C n c m d k e xs ks rs key 1 _ (HN.out.later HB3.out)).mono (fun x w' h => node_of h (n := 0) (m := 0) (k := 0) rfl rfl rfl (by omega))).mono ?_
  rintro x w4 ⟨AP, BP, CP, cP, dP, eP, rfl, hP, hb⟩
  have HB4 := Lib.hid (stepB HB3.out hb)
  have b4 := Lib.hid (b3.out.later hb)
  have cb4 := b4.out.c4
  clear b3 cb3 HB3
  clear hb
  clear hP
  go_upto_region 4 with (fail)
  have HB5 : Hid (Below w.heap.size w (w4.alloc (.cells #[.bool false, .slice AP 0 cP, .slice BP 0 dP, .slice CP 0 eP] 28))) := HB4.out.alloc HB4.out.size _
  have b5 := Lib.hid (b4.out.alloc (.cells #[.bool false, .slice AP 0 cP, .slice BP 0 dP, .slice CP 0 eP] 28))
  have a5 := Lib.hid (Blk.new w4 #[.bool false, .slice AP 0 cP, .slice BP 0 dP, .slice CP 0 eP] 28)
  have na : w.heap.size < w4.heap.size := b4.out.lt
  clear b4 cb4 HB4
  generalize (w4.alloc (.cells #[.bool false, .slice AP 0 cP, .slice BP 0 dP, .slice CP 0 eP] 28)) = w5 at *
  generalize w4.heap.size = Ba at a5 na  ⊢
  have cb5 := b5.out.c4
  have ca5 := a5.out.c4
  go_wp2_with fail
  refine ((graft_twice A B C n c m d k e xs ks rs key kid _ (HN.out.later HB5.out) HM.out HH.out).mono (fun x w' h => node_of h (n := 0) (m := 0) (k := 0) rfl rfl rfl (by omega))).mono ?_
  rintro x w6 ⟨AG, BG, CG, cG, dG, eG, rfl, hP, hb⟩
  have HB6 := Lib.hid (stepB HB5.out hb)
  have b6 := Lib.hid (b5.out.later hb)
  have a6 := Lib.hid (a5.out.later hb)
  have cb6 := b6.out.c4
  have ca6 := a6.out.c4
  clear b5 cb5 a5 ca5 HB5
  clear hb
  clear hP
  have l6 := a6.out.f4
  go_upto_region 6 with (fail)
  clear l6
  have HB7 : Hid (Below w.heap.size w (((((w6).setCell ⟨Ba, 0, none⟩ (.bool false)).setCell ⟨Ba, 1, none⟩ (.slice AG 0 cG)).setCell ⟨Ba, 2, none⟩ (.slice BG 0 dG)).setCell ⟨Ba, 3, none⟩ (.slice CG 0 eG))) := set4 HB6.out (by omega)
  have b7 := Lib.hid (blk_other4 (g := Ba) (a := .bool false) (b := .slice AG 0 cG) (c := .slice BG 0 dG) (d := .slice CG 0 eG) b6.out (by omega))
  have a7 := Lib.hid (blk_set4 (a := .bool false) (b := .slice AG 0 cG) (c := .slice BG 0 dG) (d := .slice CG 0 eG) a6.out)
  clear b6 cb6 a6 ca6 HB6
  generalize (((((w6).setCell ⟨Ba, 0, none⟩ (.bool false)).setCell ⟨Ba, 1, none⟩ (.slice AG 0 cG)).setCell ⟨Ba, 2, none⟩ (.slice BG 0 dG)).setCell ⟨Ba, 3, none⟩ (.slice CG 0 eG)) = w7 at *
  have cb7 := b7.out.c4
  have ca7 := a7.out.c4
  go_quiet (fail)
  obtain ⟨w8, hw8⟩ : ∃ W, W = w7.drewN nq := ⟨_, rfl⟩
  have hb : Below w7.heap.size w7 w8 := by rw [hw8]; exact below_drewN (Below.refl _ _) _
  rw [← hw8]
  have HB8 := Lib.hid (stepB HB7.out hb)
  have b8 := Lib.hid (b7.out.later hb)
  have a8 := Lib.hid (a7.out.later hb)
  have cb8 := b8.out.c4
  have ca8 := a8.out.c4
  clear b7 cb7 a7 ca7 HB7
  clear hb hw8
  go_wp2_with fail
  refine (HS2.out _).mono ?_
  rintro x w9 ⟨rfl, hb⟩
  have HB9 := Lib.hid (stepB HB8.out hb)
  have b9 := Lib.hid (b8.out.later hb)
  have a9 := Lib.hid (a8.out.later hb)
  have cb9 := b9.out.c4
  have ca9 := a9.out.c4
  clear b8 cb8 a8 ca8 HB8
  clear hb
  have dm : decide ((1 : Int) < (m : Int)) = true := decide_eq_true (by have := Hhm1.out; have := HNK.out; omega)
  have dn : decide (1 < m) = true := decide_eq_true (by have := Hhm1.out; have := HNK.out; omega)
  go_wp2_with fail
  refine ((cut_none_high A B C n c m d k e xs ks rs kid _ (HN.out.later HB9.out) HM.out Hhm1.out Hhc.out).mono (fun x w' h => node_of h (n := 0) (m := 0) (k := 0) rfl rfl rfl (by omega))).mono ?_
  rintro x w10 ⟨AT, BT, CT, cT, dT, eT, rfl, hP, hb⟩
  have HB10 := Lib.hid (stepB HB9.out hb)
  have b10 := Lib.hid (b9.out.later hb)
  have a10 := Lib.hid (a9.out.later hb)
  have cb10 := b10.out.c4
  have ca10 := a10.out.c4
  clear b9 cb9 a9 ca9 HB9
  clear hb
  clear hP
  have nb := b10.out.lt
  have nc : ¬ w.heap.size = w10.heap.size := by omega
  go_wp2
  all_goals (go_ret; exact ⟨rfl, HB10.out.alloc HB10.out.size _⟩)
set_option maxRecDepth 100000 in
set_option maxHeartbeats 4000000 in
theorem m_false_has_true_ok (A B C : Option Addr) (n c m d k e : Nat) (xs : List ByteArray) (ks rs : List Int) (key : ByteArray) (fan kid : Int)  (w : World) (hI : NdIn w A B C n c m d k e xs ks rs) (hL : largeB xs m k = false) (hk : ¬ 3000 < key.size) (hM : mayB false xs m k = true) (hH : hasB xs key = true) (hm1 : m ≠ 1) (hc0 : ¬ kid < 0) (hc : ¬ (m : Int) ≤ kid) : Calls Try.prog 8 #[.agg #[.bool false, .slice A n c, .slice B m d, .slice C k e], .string key, .int .i64 fan, .int .i64 kid, .bool true] w (fun e w' => e = .returned (.bool true) ∧ Below w.heap.size w w') := by
  have hb0 : Below w.heap.size w (w.alloc (.cells #[.bool false, .slice A n c, .slice B m d, .slice C k e] 28)) := (Below.refl _ _).alloc (Nat.le_refl _) _
  have b0 := Lib.hid (Blk.new w #[.bool false, .slice A n c, .slice B m d, .slice C k e] 28)
  have c0 := b0.out.c4
  have HB0 := Lib.hid hb0
  have HN : Hid (Nd w A B C n c m d k e xs ks rs) := ⟨hI.K, hI.D, hI.R, by have h1 := large_no hL; have h2 := wide_len xs; have h3 := hI.K.len; omega⟩
  have HI := Lib.hid hI
  have HL := Lib.hid hL
  have d1 : decide ((3000 : Int) < (key.size : Int)) = false := decide_eq_false (by omega)
  have HM := Lib.hid hM
  clear hb0 hI hL hk hM
  have HH := Lib.hid hH
  have HT := Lib.hid (may_true HM.out)
  have hz : n + m + k < 3000 := by have h1 := large_no HL.out; have h2 := wide_len xs; have h3 := HN.out.K.len; omega
  have hln := low_le xs key
  rw [HN.out.K.len] at hln
  have HLN := Lib.hid hln
  have HKL := Lib.hid HN.out.K.len
  have hnk : m = n + 1 := by have h := HT.out; rw [if_neg (by decide)] at h; have := HKL.out; omega
  have HNK := Lib.hid hnk
  have Hhc := Lib.hid hc
  have Hhm1 := Lib.hid hm1
  have Hhc0 := Lib.hid hc0
  clear hH hln hnk hc hm1 hc0
  obtain ⟨bf, hbf⟩ : ∃ bf, decide ((n : Int) < fan) = bf := ⟨_, rfl⟩
  have e1 : decide ((n : Int) + 1 ≤ fan) = bf := by rw [← hbf, decide_eq_decide]; omega
  obtain ⟨v, hv⟩ : ∃ v, safeB false n m fan 2 true = v := ⟨_, rfl⟩
  have HS1 : Hid (∀ W, Calls Try.prog 19 #[.agg #[.bool false, .slice A n c, .slice B m d, .slice C k e], .int .i64 fan, .int .u8 1, .bool true] W (SafeEnd bf W)) := fun W => by
    have := Safe_any false A B C n c m d k e fan 1 true W (by omega) (by omega)
    rw [show safeB false n m fan 1 true = bf from hbf] at this; exact this
  have HS2 : Hid (∀ W, Calls Try.prog 19 #[.agg #[.bool false, .slice A n c, .slice B m d, .slice C k e], .int .i64 fan, .int .u8 2, .bool true] W (SafeEnd v W)) := fun W => by
    have := Safe_any false A B C n c m d k e fan 2 true W (by omega) (by omega)
    rw [hv] at this; exact this
  have HV := Lib.hid hv
  have HBF := Lib.hid hbf
  clear hv hbf
  go_enter Try.func8, Try.ntmps8
  go_wp2_with fail
  refine (large_any false A B C n c m d k e xs _ (HI.out.K.rd.later HB0.out) (by have := HI.out.hn; omega) (by have := HI.out.hm; omega) (by have := HI.out.hk; omega) (fun s hs => by have := HI.out.hs s hs; omega)).mono ?_
  rintro x w1 ⟨rfl, hb⟩
  rw [HL.out]
  have HB1 := Lib.hid (stepB HB0.out hb)
  have b1 := Lib.hid (b0.out.later hb)
  have c1 := b1.out.c4
  clear hb b0 HB0 c0
  go_wp2_with fail
  refine (awake_any _).mono ?_
  rintro x w2 ⟨rfl, hb⟩
  have HB2 := Lib.hid (stepB HB1.out hb)
  have b2 := Lib.hid (b1.out.later hb)
  have c2 := b2.out.c4
  clear hb b1 HB1 c1
  go_wp2_with fail
  refine (May_any false A B C n c m d k e xs _ (HN.out.later HB2.out).K.rd (by have := HN.out.sz; omega) (by have := HN.out.sz; omega) (by have := HN.out.sz; omega)).mono ?_
  rintro x w3 ⟨rfl, hb⟩
  rw [HM.out]
  have HB3 := Lib.hid (stepB HB2.out hb)
  have b3 := Lib.hid (b2.out.later hb)
  have cb3 := b3.out.c4
  clear hb b2 HB2 c2
  go_wp2_with fail
  refine ((put_inner A B C n c m d k e xs ks rs key 1 _ (HN.out.later HB3.out)).mono (fun x w' h => node_of h (n := 0) (m := 0) (k := 0) rfl rfl rfl (by omega))).mono ?_
  rintro x w4 ⟨AP, BP, CP, cP, dP, eP, rfl, hP, hb⟩
  have HB4 := Lib.hid (stepB HB3.out hb)
  have b4 := Lib.hid (b3.out.later hb)
  have cb4 := b4.out.c4
  clear b3 cb3 HB3
  clear hb
  clear hP
  go_upto_region 4 with (fail)
  have HB5 : Hid (Below w.heap.size w (w4.alloc (.cells #[.bool false, .slice AP 0 cP, .slice BP 0 dP, .slice CP 0 eP] 28))) := HB4.out.alloc HB4.out.size _
  have b5 := Lib.hid (b4.out.alloc (.cells #[.bool false, .slice AP 0 cP, .slice BP 0 dP, .slice CP 0 eP] 28))
  have a5 := Lib.hid (Blk.new w4 #[.bool false, .slice AP 0 cP, .slice BP 0 dP, .slice CP 0 eP] 28)
  have na : w.heap.size < w4.heap.size := b4.out.lt
  clear b4 cb4 HB4
  generalize (w4.alloc (.cells #[.bool false, .slice AP 0 cP, .slice BP 0 dP, .slice CP 0 eP] 28)) = w5 at *
  generalize w4.heap.size = Ba at a5 na  ⊢
  have cb5 := b5.out.c4
  have ca5 := a5.out.c4
  go_wp2_with fail
  refine ((graft_twice A B C n c m d k e xs ks rs key kid _ (HN.out.later HB5.out) HM.out HH.out).mono (fun x w' h => node_of h (n := 0) (m := 0) (k := 0) rfl rfl rfl (by omega))).mono ?_
  rintro x w6 ⟨AG, BG, CG, cG, dG, eG, rfl, hP, hb⟩
  have HB6 := Lib.hid (stepB HB5.out hb)
  have b6 := Lib.hid (b5.out.later hb)
  have a6 := Lib.hid (a5.out.later hb)
  have cb6 := b6.out.c4
  have ca6 := a6.out.c4
  clear b5 cb5 a5 ca5 HB5
  clear hb
  clear hP
  have l6 := a6.out.f4
  go_upto_region 6 with (fail)
  clear l6
  have HB7 : Hid (Below w.heap.size w (((((w6).setCell ⟨Ba, 0, none⟩ (.bool false)).setCell ⟨Ba, 1, none⟩ (.slice AG 0 cG)).setCell ⟨Ba, 2, none⟩ (.slice BG 0 dG)).setCell ⟨Ba, 3, none⟩ (.slice CG 0 eG))) := set4 HB6.out (by omega)
  have b7 := Lib.hid (blk_other4 (g := Ba) (a := .bool false) (b := .slice AG 0 cG) (c := .slice BG 0 dG) (d := .slice CG 0 eG) b6.out (by omega))
  have a7 := Lib.hid (blk_set4 (a := .bool false) (b := .slice AG 0 cG) (c := .slice BG 0 dG) (d := .slice CG 0 eG) a6.out)
  clear b6 cb6 a6 ca6 HB6
  generalize (((((w6).setCell ⟨Ba, 0, none⟩ (.bool false)).setCell ⟨Ba, 1, none⟩ (.slice AG 0 cG)).setCell ⟨Ba, 2, none⟩ (.slice BG 0 dG)).setCell ⟨Ba, 3, none⟩ (.slice CG 0 eG)) = w7 at *
  have cb7 := b7.out.c4
  have ca7 := a7.out.c4
  go_quiet (fail)
  obtain ⟨w8, hw8⟩ : ∃ W, W = w7.drewN nq := ⟨_, rfl⟩
  have hb : Below w7.heap.size w7 w8 := by rw [hw8]; exact below_drewN (Below.refl _ _) _
  rw [← hw8]
  have HB8 := Lib.hid (stepB HB7.out hb)
  have b8 := Lib.hid (b7.out.later hb)
  have a8 := Lib.hid (a7.out.later hb)
  have cb8 := b8.out.c4
  have ca8 := a8.out.c4
  clear b7 cb7 a7 ca7 HB7
  clear hb hw8
  go_wp2_with fail
  refine (HS2.out _).mono ?_
  rintro x w9 ⟨rfl, hb⟩
  have HB9 := Lib.hid (stepB HB8.out hb)
  have b9 := Lib.hid (b8.out.later hb)
  have a9 := Lib.hid (a8.out.later hb)
  have cb9 := b9.out.c4
  have ca9 := a9.out.c4
  clear b8 cb8 a8 ca8 HB8
  clear hb
  obtain ⟨mt, hmt⟩ : ∃ mt, m = mt + 1 := ⟨m - 1, by have := HNK.out; omega⟩
  obtain ⟨j, hj⟩ : ∃ j : Nat, kid = j := ⟨kid.toNat, by have := Hhc0.out; omega⟩
  have HMT := Lib.hid hmt
  have HJ := Lib.hid hj
  have hjm : j < m := by have := Hhc.out; omega
  have HJM := Lib.hid hjm
  have hvv : decide (1 < mt) = v := by rw [← HV.out]; show _ = (decide (2 < m) || (!true && decide (1 < m))); rw [Bool.not_true, Bool.false_and, Bool.or_false, decide_eq_decide]; omega
  have hvi : decide ((1 : Int) < (mt : Int)) = v := by rw [← hvv, decide_eq_decide]; omega
  clear hmt hj hjm
  cases v
  all_goals (
    go_wp2_with fail
    refine ((cut_any A B C n c m d k e xs ks rs kid j _ (HN.out.later HB9.out) HM.out Hhm1.out HJ.out HJM.out).mono (fun x w' h => node_of h (n := n - 1) (m := mt) (k := 0) (len_cut _ HKL.out (by have := HNK.out; have := HJM.out; have := Hhm1.out; omega) (by have := HNK.out; have := HMT.out; have := Hhm1.out; omega)) (len_cut _ HN.out.D.len HJM.out HMT.out) rfl (by have := HMT.out; omega))).mono ?_
    rintro x w10 ⟨AT, BT, CT, cT, dT, eT, rfl, hP, hb⟩
    have HB10 := Lib.hid (stepB HB9.out hb)
    have b10 := Lib.hid (b9.out.later hb)
    have a10 := Lib.hid (a9.out.later hb)
    have cb10 := b10.out.c4
    have ca10 := a10.out.c4
    clear b9 cb9 a9 ca9 HB9
    clear hb
    clear hP
    go_wp2
    all_goals (go_ret; exact ⟨rfl, HB10.out.alloc HB10.out.size _⟩))
set_option maxRecDepth 100000 in
set_option maxHeartbeats 4000000 in
theorem m_false_has_false_ok (A B C : Option Addr) (n c m d k e : Nat) (xs : List ByteArray) (ks rs : List Int) (key : ByteArray) (fan kid : Int) (w : World) (hI : NdIn w A B C n c m d k e xs ks rs) (hL : largeB xs m k = false) (hk : ¬ 3000 < key.size) (hM : mayB false xs m k = true) (hH : hasB xs key = true) (hm1 : m ≠ 1) (hc0 : ¬ kid < 0) (hc : ¬ (m : Int) ≤ kid) : Calls Try.prog 8 #[.agg #[.bool false, .slice A n c, .slice B m d, .slice C k e], .string key, .int .i64 fan, .int .i64 kid, .bool false] w (fun e w' => e = .returned (.bool true) ∧ Below w.heap.size w w') := by
  have hb0 : Below w.heap.size w (w.alloc (.cells #[.bool false, .slice A n c, .slice B m d, .slice C k e] 28)) := (Below.refl _ _).alloc (Nat.le_refl _) _
  have b0 := Lib.hid (Blk.new w #[.bool false, .slice A n c, .slice B m d, .slice C k e] 28)
  have c0 := b0.out.c4
  have HB0 := Lib.hid hb0
  have HN : Hid (Nd w A B C n c m d k e xs ks rs) := ⟨hI.K, hI.D, hI.R, by have h1 := large_no hL; have h2 := wide_len xs; have h3 := hI.K.len; omega⟩
  have HI := Lib.hid hI
  have HL := Lib.hid hL
  have d1 : decide ((3000 : Int) < (key.size : Int)) = false := decide_eq_false (by omega)
  have HM := Lib.hid hM
  clear hb0 hI hL hk hM
  have HH := Lib.hid hH
  have HT := Lib.hid (may_true HM.out)
  have hz : n + m + k < 3000 := by have h1 := large_no HL.out; have h2 := wide_len xs; have h3 := HN.out.K.len; omega
  have hln := low_le xs key
  rw [HN.out.K.len] at hln
  have HLN := Lib.hid hln
  have HKL := Lib.hid HN.out.K.len
  have hnk : m = n + 1 := by have h := HT.out; rw [if_neg (by decide)] at h; have := HKL.out; omega
  have HNK := Lib.hid hnk
  have Hhc := Lib.hid hc
  have Hhm1 := Lib.hid hm1
  have Hhc0 := Lib.hid hc0
  clear hH hln hnk hc hm1 hc0
  obtain ⟨bf, hbf⟩ : ∃ bf, decide ((n : Int) < fan) = bf := ⟨_, rfl⟩
  have e1 : decide ((n : Int) + 1 ≤ fan) = bf := by rw [← hbf, decide_eq_decide]; omega
  obtain ⟨v, hv⟩ : ∃ v, safeB false n m fan 2 false = v := ⟨_, rfl⟩
  have HS1 : Hid (∀ W, Calls Try.prog 19 #[.agg #[.bool false, .slice A n c, .slice B m d, .slice C k e], .int .i64 fan, .int .u8 1, .bool false] W (SafeEnd bf W)) := fun W => by
    have := Safe_any false A B C n c m d k e fan 1 false W (by omega) (by omega)
    rw [show safeB false n m fan 1 false = bf from hbf] at this; exact this
  have HS2 : Hid (∀ W, Calls Try.prog 19 #[.agg #[.bool false, .slice A n c, .slice B m d, .slice C k e], .int .i64 fan, .int .u8 2, .bool false] W (SafeEnd v W)) := fun W => by
    have := Safe_any false A B C n c m d k e fan 2 false W (by omega) (by omega)
    rw [hv] at this; exact this
  have HV := Lib.hid hv
  have HBF := Lib.hid hbf
  clear hv hbf
  go_enter Try.func8, Try.ntmps8
  go_wp2_with fail
  refine (large_any false A B C n c m d k e xs _ (HI.out.K.rd.later HB0.out) (by have := HI.out.hn; omega) (by have := HI.out.hm; omega) (by have := HI.out.hk; omega) (fun s hs => by have := HI.out.hs s hs; omega)).mono ?_
  rintro x w1 ⟨rfl, hb⟩
  rw [HL.out]
  have HB1 := Lib.hid (stepB HB0.out hb)
  have b1 := Lib.hid (b0.out.later hb)
  have c1 := b1.out.c4
  clear hb b0 HB0 c0
  go_wp2_with fail
  refine (awake_any _).mono ?_
  rintro x w2 ⟨rfl, hb⟩
  have HB2 := Lib.hid (stepB HB1.out hb)
  have b2 := Lib.hid (b1.out.later hb)
  have c2 := b2.out.c4
  clear hb b1 HB1 c1
  go_wp2_with fail
  refine (May_any false A B C n c m d k e xs _ (HN.out.later HB2.out).K.rd (by have := HN.out.sz; omega) (by have := HN.out.sz; omega) (by have := HN.out.sz; omega)).mono ?_
  rintro x w3 ⟨rfl, hb⟩
  rw [HM.out]
  have HB3 := Lib.hid (stepB HB2.out hb)
  have b3 := Lib.hid (b2.out.later hb)
  have cb3 := b3.out.c4
  clear hb b2 HB2 c2
  go_wp2_with fail
  refine ((put_inner A B C n c m d k e xs ks rs key 1 _ (HN.out.later HB3.out)).mono (fun x w' h => node_of h (n := 0) (m := 0) (k := 0) rfl rfl rfl (by omega))).mono ?_
  rintro x w4 ⟨AP, BP, CP, cP, dP, eP, rfl, hP, hb⟩
  have HB4 := Lib.hid (stepB HB3.out hb)
  have b4 := Lib.hid (b3.out.later hb)
  have cb4 := b4.out.c4
  clear b3 cb3 HB3
  clear hb
  clear hP
  go_upto_region 4 with (fail)
  have HB5 : Hid (Below w.heap.size w (w4.alloc (.cells #[.bool false, .slice AP 0 cP, .slice BP 0 dP, .slice CP 0 eP] 28))) := HB4.out.alloc HB4.out.size _
  have b5 := Lib.hid (b4.out.alloc (.cells #[.bool false, .slice AP 0 cP, .slice BP 0 dP, .slice CP 0 eP] 28))
  have a5 := Lib.hid (Blk.new w4 #[.bool false, .slice AP 0 cP, .slice BP 0 dP, .slice CP 0 eP] 28)
  have na : w.heap.size < w4.heap.size := b4.out.lt
  clear b4 cb4 HB4
  generalize (w4.alloc (.cells #[.bool false, .slice AP 0 cP, .slice BP 0 dP, .slice CP 0 eP] 28)) = w5 at *
  generalize w4.heap.size = Ba at a5 na  ⊢
  have cb5 := b5.out.c4
  have ca5 := a5.out.c4
  go_wp2_with fail
  refine ((graft_twice A B C n c m d k e xs ks rs key kid _ (HN.out.later HB5.out) HM.out HH.out).mono (fun x w' h => node_of h (n := 0) (m := 0) (k := 0) rfl rfl rfl (by omega))).mono ?_
  rintro x w6 ⟨AG, BG, CG, cG, dG, eG, rfl, hP, hb⟩
  have HB6 := Lib.hid (stepB HB5.out hb)
  have b6 := Lib.hid (b5.out.later hb)
  have a6 := Lib.hid (a5.out.later hb)
  have cb6 := b6.out.c4
  have ca6 := a6.out.c4
  clear b5 cb5 a5 ca5 HB5
  clear hb
  clear hP
  have l6 := a6.out.f4
  go_upto_region 6 with (fail)
  clear l6
  have HB7 : Hid (Below w.heap.size w (((((w6).setCell ⟨Ba, 0, none⟩ (.bool false)).setCell ⟨Ba, 1, none⟩ (.slice AG 0 cG)).setCell ⟨Ba, 2, none⟩ (.slice BG 0 dG)).setCell ⟨Ba, 3, none⟩ (.slice CG 0 eG))) := set4 HB6.out (by omega)
  have b7 := Lib.hid (blk_other4 (g := Ba) (a := .bool false) (b := .slice AG 0 cG) (c := .slice BG 0 dG) (d := .slice CG 0 eG) b6.out (by omega))
  have a7 := Lib.hid (blk_set4 (a := .bool false) (b := .slice AG 0 cG) (c := .slice BG 0 dG) (d := .slice CG 0 eG) a6.out)
  clear b6 cb6 a6 ca6 HB6
  generalize (((((w6).setCell ⟨Ba, 0, none⟩ (.bool false)).setCell ⟨Ba, 1, none⟩ (.slice AG 0 cG)).setCell ⟨Ba, 2, none⟩ (.slice BG 0 dG)).setCell ⟨Ba, 3, none⟩ (.slice CG 0 eG)) = w7 at *
  have cb7 := b7.out.c4
  have ca7 := a7.out.c4
  go_quiet (fail)
  obtain ⟨w8, hw8⟩ : ∃ W, W = w7.drewN nq := ⟨_, rfl⟩
  have hb : Below w7.heap.size w7 w8 := by rw [hw8]; exact below_drewN (Below.refl _ _) _
  rw [← hw8]
  have HB8 := Lib.hid (stepB HB7.out hb)
  have b8 := Lib.hid (b7.out.later hb)
  have a8 := Lib.hid (a7.out.later hb)
  have cb8 := b8.out.c4
  have ca8 := a8.out.c4
  clear b7 cb7 a7 ca7 HB7
  clear hb hw8
  go_wp2_with fail
  refine (HS2.out _).mono ?_
  rintro x w9 ⟨rfl, hb⟩
  have HB9 := Lib.hid (stepB HB8.out hb)
  have b9 := Lib.hid (b8.out.later hb)
  have a9 := Lib.hid (a8.out.later hb)
  have cb9 := b9.out.c4
  have ca9 := a9.out.c4
  clear b8 cb8 a8 ca8 HB8
  clear hb
  obtain ⟨mt, hmt⟩ : ∃ mt, m = mt + 1 := ⟨m - 1, by have := HNK.out; omega⟩
  obtain ⟨j, hj⟩ : ∃ j : Nat, kid = j := ⟨kid.toNat, by have := Hhc0.out; omega⟩
  have HMT := Lib.hid hmt
  have HJ := Lib.hid hj
  have hjm : j < m := by have := Hhc.out; omega
  have HJM := Lib.hid hjm
  have hvv : v = true := by rw [← HV.out]; show (decide (2 < m) || (!false && decide (1 < m))) = true; rw [decide_eq_true (show 1 < m by have := Hhm1.out; omega)]; simp
  subst hvv
  have hv0 : 0 < mt := by have := Hhm1.out; omega
  clear hmt hj hjm
  go_wp2_with fail
  refine ((cut_any A B C n c m d k e xs ks rs kid j _ (HN.out.later HB9.out) HM.out Hhm1.out HJ.out HJM.out).mono (fun x w' h => node_of h (n := n - 1) (m := mt) (k := 0) (len_cut _ HKL.out (by have := HNK.out; have := HJM.out; have := Hhm1.out; omega) (by have := HNK.out; have := HMT.out; have := Hhm1.out; omega)) (len_cut _ HN.out.D.len HJM.out HMT.out) rfl (by have := HMT.out; omega))).mono ?_
  rintro x w10 ⟨AT, BT, CT, cT, dT, eT, rfl, hP, hb⟩
  have HB10 := Lib.hid (stepB HB9.out hb)
  have b10 := Lib.hid (b9.out.later hb)
  have a10 := Lib.hid (a9.out.later hb)
  have cb10 := b10.out.c4
  have ca10 := a10.out.c4
  clear b9 cb9 a9 ca9 HB9
  clear hb
  clear hP
  go_wp2
  all_goals (go_ret; exact ⟨rfl, HB10.out.alloc HB10.out.size _⟩)
theorem w_main (lf : Bool) (A B C : Option Addr) (n c m d k e : Nat) (xs : List ByteArray) (ks rs : List Int) (key : ByteArray) (fan kid : Int) (root : Bool) (w : World) (hI : NdIn w A B C n c m d k e xs ks rs) (hL : largeB xs m k = false) (hk : ¬ 3000 < key.size) (hM : mayB lf xs m k = true) : Calls Try.prog 8 #[.agg #[.bool lf, .slice A n c, .slice B m d, .slice C k e], .string key, .int .i64 fan, .int .i64 kid, .bool root] w (fun e w' => e = .returned (.bool true) ∧ Below w.heap.size w w') := by
  cases lf
  · cases hH : hasB xs key
    · by_cases h1 : m = 1
      · exact m_false_not_one A B C n c m d k e xs ks rs key fan kid root w hI hL hk hM hH h1
      · by_cases h2 : kid < 0
        · exact m_false_not_low A B C n c m d k e xs ks rs key fan kid root w hI hL hk hM hH h1 h2
        · by_cases h3 : (m : Int) ≤ kid
          · exact m_false_not_high A B C n c m d k e xs ks rs key fan kid root w hI hL hk hM hH h1 h3
          · cases root
            · exact m_false_not_false_ok A B C n c m d k e xs ks rs key fan kid w hI hL hk hM hH h1 h2 h3
            · exact m_false_not_true_ok A B C n c m d k e xs ks rs key fan kid w hI hL hk hM hH h1 h2 h3
    · by_cases h1 : m = 1
      · exact m_false_has_one A B C n c m d k e xs ks rs key fan kid root w hI hL hk hM hH h1
      · by_cases h2 : kid < 0
        · exact m_false_has_low A B C n c m d k e xs ks rs key fan kid root w hI hL hk hM hH h1 h2
        · by_cases h3 : (m : Int) ≤ kid
          · exact m_false_has_high A B C n c m d k e xs ks rs key fan kid root w hI hL hk hM hH h1 h3
          · cases root
            · exact m_false_has_false_ok A B C n c m d k e xs ks rs key fan kid w hI hL hk hM hH h1 h2 h3
            · exact m_false_has_true_ok A B C n c m d k e xs ks rs key fan kid w hI hL hk hM hH h1 h2 h3
  · cases hH : hasB xs key
    · exact m_true_not A B C n c m d k e xs ks rs key fan kid root w hI hL hk hM hH
    · cases root
      · exact m_true_has_false A B C n c m d k e xs ks rs key fan kid w hI hL hk hM hH
      · exact m_true_has_true A B C n c m d k e xs ks rs key fan kid w hI hL hk hM hH
theorem walk (lf : Bool) (A B C : Option Addr) (n c m d k e : Nat) (xs : List ByteArray) (ks rs : List Int) (key : ByteArray) (fan kid : Int) (root : Bool) (w : World) (hI : NdIn w A B C n c m d k e xs ks rs) : Calls Try.prog 8 #[.agg #[.bool lf, .slice A n c, .slice B m d, .slice C k e], .string key, .int .i64 fan, .int .i64 kid, .bool root] w (fun e w' => e = .returned (.bool true) ∧ Below w.heap.size w w') := by
  cases hL : largeB xs m k
  · by_cases hk : 3000 < key.size
    · exact w_long lf A B C n c m d k e xs ks rs key fan kid root w hI hL hk
    · cases hM : mayB lf xs m k
      · exact w_wrong lf A B C n c m d k e xs ks rs key fan kid root w hI hL hk hM
      · exact w_main lf A B C n c m d k e xs ks rs key fan kid root w hI hL hk hM
  · exact w_large lf A B C n c m d k e xs ks rs key fan kid root w hI hL


set_option maxRecDepth 100000 in
theorem lifted (os : Os) (started : os.Started) (H : Type) (enc : TypeId × Value → H) :
    ReturnsInHanded {} Try.checked os 8 .any (Rows.forkSafeSpec.pre6 enc Try.prog Try.f8 Rows.forkSafeRow.domain false) (Rows.forkSafeSpec.post enc Try.prog Try.f8 false true false false) := by
  refine returnsInHanded_of_change_sized (C := Try.checked) own started (by kernel_rfl) Try.func8
    (ChangeSpec.witness6 (enc := enc) (C := Try.checked) false ⟨#[], #[.agg #[.bool false, .slice none 0 0, .slice none 0 0, .slice none 0 0], .string ⟨#[]⟩, .int .i64 0, .int .i64 0, .bool false], []⟩ 8 (by kernel_rfl) (by kernel_rfl) (by kernel_rfl) (by kernel_rfl)) ?_
  intro W base args ds gs before hval0 hW _ hsz _
  have hval : ∀ (j : Nat) t v, Try.f8.params[j]? = some t → args[j]? = some v → Value.okWide Try.prog W .any base t v := hval0
  have hW' := hW
  obtain ⟨p, q, hA0, hV, hbef, _, _⟩ := hW
  have hA : DataW.TrodAll enc Try.prog W 0 (fun _ => true) true Try.f8.params.toList args.toList ds p := hA0
  rw [Try.params8] at hA hval
  obtain ⟨v0, vs0, d0, ds0, p0, q0, hargs, rfl, rfl, h0, r0⟩ := trodAll_cons hA
  obtain ⟨v1, vs1, d1, ds1, p1, q1, rfl, rfl, rfl, h1, r1⟩ := trodAll_cons r0
  obtain ⟨v2, vs2, d2, ds2, p2, q2, rfl, rfl, rfl, h2, r2⟩ := trodAll_cons r1
  obtain ⟨v3, vs3, d3, ds3, p3, q3, rfl, rfl, rfl, h3, r3⟩ := trodAll_cons r2
  obtain ⟨v4, vs4, d4, ds4, p4, q4, rfl, rfl, rfl, h4, r4⟩ := trodAll_cons r3
  obtain ⟨rfl, rfl, rfl⟩ := trodAll_nil r4
  obtain rfl : args = #[v0, v1, v2, v3, v4] := by cases args; simp_all
  obtain ⟨rfl, rfl⟩ := trodVars_none hV
  obtain ⟨lf0, A0, B0, C0, n0, c0, m0, d0_, k0, e0, xs0, ks0, rs0, rfl, nn0⟩ := open_node (hval 0 28 v0 rfl rfl) h0 (weight_at (ts := Try.f8.params.toList) hsz (j := 0) (by rw [Try.params8]; rfl) rfl)
  obtain ⟨s1, rfl, _, _, w1⟩ := open_string Try.underlying9 (hval 1 9 v1 rfl rfl) h1
  obtain ⟨a2, rfl, _, _, w2⟩ := open_int Try.underlying3 (hval 2 3 v2 rfl rfl) h2
  obtain ⟨a3, rfl, _, _, w3⟩ := open_int Try.underlying3 (hval 3 3 v3 rfl rfl) h3
  obtain ⟨a4, rfl, _, _⟩ := open_bool Try.underlying4 (hval 4 4 v4 rfl rfl) h4
  refine (walk lf0 A0 B0 C0 n0 c0 m0 d0_ k0 e0 xs0 ks0 rs0 s1 a2 a3 a4 W nn0).mono fun e W' ⟨he, hb⟩ => ?_
  subst he
  exact ⟨_, rfl, law_post laidOut (of_decide_eq_true (by kernel_rfl)) rfl Try.underlying4 rfl rfl hW' hb⟩

theorem over : Rows.forkSafeRow.holds Try.pinned (OpenSpec.ofChange Rows.forkSafeSpec) :=
  OpenClaim.holds_of_wide 8 Try.f8 rfl rfl rfl rfl rfl rfl rfl ⟨rfl, rfl, rfl, rfl, rfl⟩ rfl rfl rfl rfl rfl (by kernel_rfl) Try.func8 (by kernel_rfl)
    (of_decide_eq_true (by kernel_rfl)) (by unfold Func.isWrapper; first | (rw [if_pos (by decide +kernel)]; kernel_rfl) | (rw [if_neg (by decide +kernel)]; exact ⟨rfl, rfl⟩))
    (fun os started H enc _ => lifted os started H enc)

end Go.Proofs.Ytiojjpmkiljngaa.forkSafe
namespace Go.Proofs.Ytiojjpmkiljngaa
theorem forkSafe_holds : Rows.ForkSafeSaid := forkSafe.over
end Go.Proofs.Ytiojjpmkiljngaa
