/- New, Owner, Try, Drop, All. -/
import Derived.Test.YtgjponobiplipaaA
import Derived.Carry
import Derived.StillTailTactics
namespace Go.Proofs.Ytgjponobiplipaa
open Go.ChangeShapes Go.WideShapes Go.ChangeAt Go.RowKit Go.Maps
set_option linter.unusedVariables false
set_option linter.unusedSimpArgs false


theorem grown_of_below {w w' : World} (h : Below w.heap.size w w') (r : Option Nat) : w.grownBy w' r := ⟨h.os, h.tape, h.output, h.size, fun k hk _ => h.block k hk⟩
theorem grown_refl (w : World) (r : Option Nat) : w.grownBy w r := grown_of_below (Below.refl _ _) r
theorem grown_step {a b c : World} {r : Option Nat} (h : a.grownBy b r) (k : b.grownBy c r) : a.grownBy c r := grown_trans h k
theorem LaAt.turned {W W' : World} {B p b n : Nat} {C D : List Ct} (h : LaAt W B p b C) (hg : W.grownBy W' (some b)) (ho : W'.ownsMap Try.prog 27 R3 b n (dm D)) (ok : Ok D) : LaAt W' B p b D :=
  ⟨h.hp, h.blk.grown hg (fun e => h.ne (Option.some.inj e)), ⟨h.own.1, own_tight ho⟩, ok⟩
def LEnd (B p b : Nat) (C : List Ct) (r : Value) (w : World) (x : Ending) (w' : World) : Prop := x = .returned r ∧ LaAt w' B p b C ∧ w.grownBy w' (some b)
theorem l_end {B p b : Nat} {C S : List Ct} {A A' : Bool} {w w' : World} (hS : S = C) (hA : A = A') (h : LaAt w' B p b C) (hg : w.grownBy w' (some b)) : LEnd B p b S (.bool A) w (.returned (.bool A')) w' := by subst hS hA; exact ⟨rfl, h, hg⟩
/-- what is answered: as a tuple -/
theorem ret2 {a b a' b' : Value} (h1 : a = a') (h2 : b = b') : Ending.returned (.tuple #[a, b]) = .returned (.tuple #[a', b']) := by rw [h1, h2]
set_option maxRecDepth 100000 in
set_option maxHeartbeats 4000000 in
theorem new_any (w : World) : Calls Try.prog 16 #[] w fun x w' => x = .returned (.pointer (some ⟨w.heap.size + 1, 0, none⟩)) ∧ LaAt w' w.heap.size (w.heap.size + 1) w.heap.size [] ∧ Below w.heap.size w w' := by
  have hmm := @run_makeMap Try.prog
  have hb0 : Below w.heap.size w (w.alloc (.map #[] 0)) := (Below.refl _ _).alloc (Nat.le_refl _) _
  have hb1 : Below w.heap.size w ((w.alloc (.map #[] 0)).alloc (.cells #[.map (some w.heap.size)] 56)) := hb0.alloc hb0.size _
  have HB := Lib.hid hb1
  have HO : Hid (LaAt ((w.alloc (.map #[] 0)).alloc (.cells #[.map (some w.heap.size)] 56)) w.heap.size (w.heap.size + 1) w.heap.size []) :=
    ⟨Nat.le_succ _, Blk.new2 _ _ _ (by simp), ⟨Nat.le_refl _, (World.ownsMap_made w Try.prog 27 R3).alloc _⟩, Ok.nil⟩
  clear hb0 hb1
  go_enter Try.func16, Try.ntmps16
  go_wp2
  go_ret
  exact ⟨rfl, HO.out, HB.out⟩
set_option maxRecDepth 100000 in
set_option maxHeartbeats 4000000 in
theorem all_any (B p b : Nat) (C : List Ct) (w : World) (h : LaAt w B p b C) : Calls Try.prog 14 #[.pointer (some ⟨p, 0, none⟩)] w fun x w' => x = .returned (.int .i64 (C.length : Nat)) ∧ w = w' := by
  have k0 := h.blk.cell 0
  simp only [List.getElem?_toArray, List.getElem?_cons_zero] at k0
  have hl : (Builtin.len_ #[54] 3 #[.map (some b)]).run Try.prog w = .ok (.int .i64 (C.length : Nat)) w := by
    have := h.own.2.len Try.underlying54 3
    rw [show Maps.size (dm C) = C.length from by simp [dm, Maps.size]] at this
    exact this
  clear h
  go_enter Try.func14, Try.ntmps14
  go_wp2
  go_ret
  exact ⟨rfl, rfl⟩
theorem look_run {w : World} {B b : Nat} {C : List Ct} {z : Int} (h : MapAt w B b C) (ok : Ok C) (hz : rg z) : (Instr.lookup 54 (.map (some b)) (nmv z) true).run Try.prog w = .ok (.tuple #[.int .i64 (ofC C z), .bool (isC C z)]) w := by
  obtain ⟨v, ps, hrun, hv⟩ := h.2.look_ok law27 Try.underlying54 (zero3 _) (zd := .lit (.int .i64 0)) (zp := []) (plainElem_int Try.underlying3 (by decide)) (key_nm hz)
  rw [has_dm hz ok.rgs] at hrun
  obtain ⟨c, rfl, hc, _⟩ := plainElem_int_inv Try.underlying3 hv
  have h1 := congrArg Prod.fst hc
  rw [atKey_0 hz ok.rgs] at h1
  simp only [DataW.lit.injEq, Lit.int.injEq, true_and] at h1
  rw [h1]
  exact hrun
theorem nm_blk (w : World) (a b : Int) : Blk (w.alloc (.cells #[.int .u8 a, .int .u64 b] 27)) w.heap.size #[.int .u8 a, .int .u64 b] 27 := Blk.new _ _ _
set_option maxRecDepth 100000 in
set_option maxHeartbeats 4000000 in
theorem owner_any (B p b : Nat) (C : List Ct) (z : Int) (w : World) (h : LaAt w B p b C) (hz : rg z) : Calls Try.prog 9 #[.pointer (some ⟨p, 0, none⟩), nmv z] w fun x w' => x = .returned (.tuple #[.int .i64 (ofC C z), .bool (isC C z)]) ∧ Below w.heap.size w w' := by
  have hb0 : Below w.heap.size w (w.alloc (.cells #[.int .u8 (z / 18446744073709551616), .int .u64 (z % 18446744073709551616)] 27)) := (Below.refl _ _).alloc (Nat.le_refl _) _
  have HB := Lib.hid hb0
  have H1 := Lib.hid (h.later hb0)
  have HX := Lib.hid (Blk.new w #[.int .u8 (z / 18446744073709551616), .int .u64 (z % 18446744073709551616)] 27)
  have HL : Hid (∀ W, Below w.heap.size w W → (Instr.lookup 54 (.map (some b)) (.agg #[.int .u8 (z / 18446744073709551616), .int .u64 (z % 18446744073709551616)]) true).run Try.prog W = .ok (.tuple #[.int .i64 (ofC C z), .bool (isC C z)]) W) := fun W hb => look_run (h.own.later hb) h.ok hz
  unfold nmv
  clear h hb0
  generalize z / 18446744073709551616 = zk at *
  generalize z % 18446744073709551616 = zi at *
  generalize ofC C z = oc at *
  generalize isC C z = ic at *
  go_enter Try.func9, Try.ntmps9
  go_upto_region 3 with (fail)
  have hL : ∀ n, (Instr.lookup 54 (.map (some b)) (.agg #[.int .u8 zk, .int .u64 zi]) true).run Try.prog ((w.alloc (.cells #[.int .u8 zk, .int .u64 zi] 27)).drewN n) = .ok (.tuple #[.int .i64 oc, .bool ic]) ((w.alloc (.cells #[.int .u8 zk, .int .u64 zi] 27)).drewN n) := fun n => HL.out _ (below_drewN HB.out n)
  generalize hw1 : w.alloc (.cells #[.int .u8 zk, .int .u64 zi] 27) = w1 at *
  have HW1 := Lib.hid hw1
  clear hw1
  have k0 := H1.out.blk.cell 0
  have x0 := HX.out.cell 0
  have x1 := HX.out.cell 1
  simp only [List.getElem?_toArray, List.getElem?_cons_zero, List.getElem?_cons_succ] at k0 x0 x1
  go_quiet (fail)
  clear k0 x0 x1 hL
  go_wp2
  go_ret2
  exact ⟨rfl, below_drewN HB.out nq⟩
/-- what a Try answers, and makes -/
def tryB (C : List Ct) (z t : Int) : Bool := if isC C z then decide (ofC C z = t) else true
def tryS (C : List Ct) (z t : Int) : List Ct := if isC C z then C else putC C z t
def dropB (C : List Ct) (z t : Int) : Bool := isC C z && decide (ofC C z = t)
def dropS (C : List Ct) (z t : Int) : List Ct := if dropB C z t then delC C z else C
theorem ieq_no {x y : Int} (h : ¬ x = y) : (x == y) = false := by rw [beq_eq_false_iff_ne]; exact h
theorem ine_no {x y : Int} (h : x = y) : (x != y) = false := by rw [h]; simp
theorem ine_yes {x y : Int} (h : ¬ x = y) : (x != y) = true := by rw [bne_iff_ne]; exact h
set_option maxRecDepth 100000 in
set_option maxHeartbeats 4000000 in
theorem try_any (B p b : Nat) (C : List Ct) (z t : Int) (w : World) (h : LaAt w B p b C) (hz : rg z) (ht : (Lit.int .i64 t).wf = true) (hn : C.length < 1000000) : Calls Try.prog 11 #[.pointer (some ⟨p, 0, none⟩), nmv z, .int .i64 t] w (LEnd B p b (tryS C z t) (.bool (tryB C z t)) w) := by
  have hb0 : Below w.heap.size w (w.alloc (.cells #[.int .u8 (z / 18446744073709551616), .int .u64 (z % 18446744073709551616)] 27)) := (Below.refl _ _).alloc (Nat.le_refl _) _
  have HB := Lib.hid hb0
  have H0 := Lib.hid h
  have H1 := Lib.hid (h.later hb0)
  have HX := Lib.hid (Blk.new w #[.int .u8 (z / 18446744073709551616), .int .u64 (z % 18446744073709551616)] 27)
  have HL : Hid (∀ W, Below w.heap.size w W → (Instr.lookup 54 (.map (some b)) (.agg #[.int .u8 (z / 18446744073709551616), .int .u64 (z % 18446744073709551616)]) true).run Try.prog W = .ok (.tuple #[.int .i64 (ofC C z), .bool (isC C z)]) W) := fun W hb => look_run (h.own.later hb) h.ok hz
  have HKEY : Hid (keyOf Try.prog 27 (.agg #[.int .u8 (z / 18446744073709551616), .int .u64 (z % 18446744073709551616)]) = some (kl z)) := key_nm hz
  have HP : Hid (Ok (putC C z t)) := h.ok.put hz ht
  have HPD : Hid ((dm C).put (kl z) (.lit (.int .i64 t)) = dm (putC C z t)) := put_dm hz h.ok.rgs t
  have HS : Hid (tryS C z t = if isC C z then C else putC C z t) := rfl
  have HA : Hid (tryB C z t = if isC C z then decide (ofC C z = t) else true) := rfl
  have qT := fun w => run_eql_map_nil (P := Try.prog) w 54 27 3 (some b) Try.underlying54
  generalize tryS C z t = S at *
  generalize tryB C z t = A at *
  unfold nmv
  clear h hb0
  generalize z / 18446744073709551616 = zk at *
  generalize z % 18446744073709551616 = zi at *
  generalize ofC C z = oc at *
  generalize isC C z = ic at *
  go_enter Try.func11, Try.ntmps11
  go_upto_region 3 with (fail)
  have hL : ∀ n, (Instr.lookup 54 (.map (some b)) (.agg #[.int .u8 zk, .int .u64 zi]) true).run Try.prog ((w.alloc (.cells #[.int .u8 zk, .int .u64 zi] 27)).drewN n) = .ok (.tuple #[.int .i64 oc, .bool ic]) ((w.alloc (.cells #[.int .u8 zk, .int .u64 zi] 27)).drewN n) := fun n => HL.out _ (below_drewN HB.out n)
  generalize hw1 : w.alloc (.cells #[.int .u8 zk, .int .u64 zi] 27) = w1 at *
  have HW1 := Lib.hid hw1
  clear hw1
  have k0 := H1.out.blk.cell 0
  have x0 := HX.out.cell 0
  have x1 := HX.out.cell 1
  simp only [List.getElem?_toArray, List.getElem?_cons_zero, List.getElem?_cons_succ] at k0 x0 x1
  go_quiet (fail)
  clear k0 x0 x1 hL
  have hbb := below_drewN HB.out nq
  have H2 := Lib.hid (H0.out.later hbb)
  have HX2 := Lib.hid (HX.out.later (below_drewN (Below.refl _ _) nq))
  have HB2 := Lib.hid hbb
  clear hbb
  generalize hw2 : w1.drewN nq = w2 at *
  clear hw2 HB H1 HX HW1
  cases ic with
  | true =>
    have HS2 : Hid (S = C) := HS.out
    have HA2 : Hid (A = decide (oc = t)) := HA.out
    have dd : decide (oc = t) = (oc == t) := by by_cases e : oc = t <;> simp [e]
    have HA3 := Lib.hid (HA2.out.trans dd)
    clear dd
    go_wp2
    go_ret
    exact l_end HS2.out HA3.out H2.out (grown_of_below HB2.out _)
  | false =>
    have HS2 : Hid (S = putC C z t) := HS.out
    have HA2 : Hid (A = true) := HA.out
    have k0 := H2.out.blk.cell 0
    have x0 := HX2.out.cell 0
    have x1 := HX2.out.cell 1
    simp only [List.getElem?_toArray, List.getElem?_cons_zero, List.getElem?_cons_succ] at k0 x0 x1
    have HM := Lib.hid H2.out.own.2
    go_upto_region 8 with (fail)
    go_still_tail 6, (by kernel_rfl)
    change wpList _ _ _ _ _ w2.drew
    have hb3 : Below w2.heap.size w2 w2.drew := Below.drew (Below.refl _ _)
    have H3 := Lib.hid (H2.out.later hb3)
    have HB3 := Lib.hid (stepB HB2.out hb3)
    have HM3 := Lib.hid H3.out.own.2
    clear k0 x0 x1 HM hb3 H2 HB2 HX2
    generalize w2.drew = w3 at *
    go_wp2_with (first
      | (at_mapUpdate; refine wpList_mapUpdate_own _ rfl _ _ _ 54 rfl 27 3 law27 Try.underlying54 _ b C.length _ rfl HM3.out (by unfold maxLen; omega) _ _ _ rfl rfl HKEY.out _ [] (plainElem_int Try.underlying3 ht) ?_; intro w4 ho4)
      | go_in)
    intro hg4
    rw [HPD.out] at ho4
    have HF := Lib.hid (H3.out.turned hg4 ho4 HP.out)
    have HG := Lib.hid (grown_step (grown_of_below HB3.out (some b)) hg4)
    clear ho4 hg4
    go_wp2
    go_ret
    exact l_end HS2.out HA2.out HF.out HG.out
set_option maxRecDepth 100000 in
set_option maxHeartbeats 4000000 in
theorem drop_any (B p b : Nat) (C : List Ct) (z t : Int) (w : World) (h : LaAt w B p b C) (hz : rg z) : Calls Try.prog 12 #[.pointer (some ⟨p, 0, none⟩), nmv z, .int .i64 t] w (LEnd B p b (dropS C z t) (.bool (dropB C z t)) w) := by
  have hb0 : Below w.heap.size w (w.alloc (.cells #[.int .u8 (z / 18446744073709551616), .int .u64 (z % 18446744073709551616)] 27)) := (Below.refl _ _).alloc (Nat.le_refl _) _
  have HB := Lib.hid hb0
  have H1 := Lib.hid (h.later hb0)
  have HX := Lib.hid (Blk.new w #[.int .u8 (z / 18446744073709551616), .int .u64 (z % 18446744073709551616)] 27)
  have HCO : Hid (∀ W, LaAt W B p b C → Calls Try.prog 9 #[.pointer (some ⟨p, 0, none⟩), .agg #[.int .u8 (z / 18446744073709551616), .int .u64 (z % 18446744073709551616)]] W fun x w' => x = .returned (.tuple #[.int .i64 (ofC C z), .bool (isC C z)]) ∧ Below W.heap.size W w') := fun W h => owner_any B p b C z W h hz
  have HKEY : Hid (keyOf Try.prog 27 (.agg #[.int .u8 (z / 18446744073709551616), .int .u64 (z % 18446744073709551616)]) = some (kl z)) := key_nm hz
  have HP : Hid (Ok (delC C z)) := h.ok.del z
  have HPD : Hid ((dm C).del (kl z) = dm (delC C z)) := del_dm hz h.ok.rgs
  have HS : Hid (dropS C z t = if dropB C z t then delC C z else C) := rfl
  have HA : Hid (dropB C z t = (isC C z && decide (ofC C z = t))) := rfl
  generalize dropS C z t = S at *
  generalize dropB C z t = A at *
  unfold nmv
  clear h hb0
  generalize z / 18446744073709551616 = zk at *
  generalize z % 18446744073709551616 = zi at *
  generalize ofC C z = oc at *
  generalize isC C z = ic at *
  have x0 := HX.out.cell 0
  have x1 := HX.out.cell 1
  simp only [List.getElem?_toArray, List.getElem?_cons_zero, List.getElem?_cons_succ] at x0 x1
  go_enter Try.func12, Try.ntmps12
  go_wp2_with fail
  refine (HCO.out _ H1.out).mono ?_
  rintro x w2 ⟨rfl, hb⟩
  have H2 := Lib.hid (H1.out.later hb)
  have HX2 := Lib.hid (HX.out.later hb)
  have HB2 := Lib.hid (stepB HB.out hb)
  clear hb x0 x1 H1 HX HB HCO
  by_cases hd : ic = true ∧ oc = t
  · obtain ⟨rfl, rfl⟩ := hd
    have HA2 : Hid (A = true) := HA.out.trans (by simp)
    have HS2 : Hid (S = delC C z) := by show _ = _; rw [HS.out, HA2.out]; rfl
    have dd : (oc != oc) = false := by simp
    clear HA HS
    have k0 := H2.out.blk.cell 0
    have x0 := HX2.out.cell 0
    have x1 := HX2.out.cell 1
    simp only [List.getElem?_toArray, List.getElem?_cons_zero, List.getElem?_cons_succ] at k0 x0 x1
    go_upto_region 4 with (fail)
    go_still_tail 5, (by kernel_rfl)
    change wpList _ _ _ _ _ w2.drew
    have hb3 : Below w2.heap.size w2 w2.drew := Below.drew (Below.refl _ _)
    have H3 := Lib.hid (H2.out.later hb3)
    have HB3 := Lib.hid (stepB HB2.out hb3)
    have HM3 := Lib.hid H3.out.own.2
    clear k0 x0 x1 hb3 H2 HB2 HX2
    generalize w2.drew = w3 at *
    go_wp2_with (first
      | (at_delete; refine wpList_delete_own _ rfl _ _ 54 27 rfl 3 law27 Try.underlying54 _ b C.length _ rfl HM3.out _ _ rfl HKEY.out ?_; intro w4 ho4)
      | go_in)
    intro hg4
    rw [HPD.out] at ho4
    have HF := Lib.hid (H3.out.turned hg4.grown ho4 HP.out)
    have HG := Lib.hid (grown_step (grown_of_below HB3.out (some b)) hg4.grown)
    clear ho4 hg4
    go_wp2
    go_ret
    exact l_end HS2.out HA2.out HF.out HG.out
  · have HA2 : Hid (A = false) := HA.out.trans (by
      cases ic with
      | false => rfl
      | true => rw [decide_eq_false (fun e => hd ⟨rfl, e⟩)]; rfl)
    have HS2 : Hid (S = C) := by show _ = _; rw [HS.out, HA2.out]; rfl
    clear HA HS
    cases ic with
    | false =>
      clear hd
      go_wp2
      go_ret
      exact l_end HS2.out HA2.out H2.out (grown_of_below HB2.out _)
    | true =>
      have dd : (oc != t) = true := ine_yes (fun e => hd ⟨rfl, e⟩)
      clear hd
      go_wp2
      go_ret
      exact l_end HS2.out HA2.out H2.out (grown_of_below HB2.out _)
end Go.Proofs.Ytgjponobiplipaa
