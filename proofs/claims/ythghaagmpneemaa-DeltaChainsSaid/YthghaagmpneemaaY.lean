/- Package delta's iterator over what deltas make, one behind the other. -/
import Derived.Test.YthghaagmpneemaaX
import Derived.Test.YthghaagmpneemaaOP
import Derived.RangeFuncNested
import Derived.RangeFuncBound
import Derived.RangeFuncCalls
import Derived.RangeFuncLeaves
import Derived.RangeFuncBox
import Derived.Shelf.Abstract
import Derived.Shelf.RegionOpen
import Derived.OwnWalkIn
import Derived.TacticsInMore
import Derived.LoopNIn
import Derived.LoopIn
namespace Go.Proofs.Ythghaagmpneemaa
open Go.ChangeShapes Go.WideShapes Go.ChangeAt Go.RowKit Go.Shelf
set_option linter.unusedVariables false
attribute [local go_sem] Oper.semAt_some

/-- Apply's answer -/
def apR (a d : ByteArray) : ByteArray × Int := if a.size ≤ 256 then (if apB (bl a) (bl d) = true then (str (ap (bl a) (bl d)), 0) else (⟨#[]⟩, 4)) else (⟨#[]⟩, 40)
theorem apply_all (a d : ByteArray) (w : World) (hd : d.size ≤ 1000000) :
    Calls Try.prog 10 #[.string a, .string d] w fun e w' => e = .returned (.tuple #[.string (apR a d).1, .int .i64 (apR a d).2]) ∧ Below w.heap.size w w' := by
  by_cases h : a.size ≤ 256 ∧ apB (bl a) (bl d) = true
  · refine (apply_yes a d w hd h.1 h.2).mono ?_
    rintro e w' ⟨rfl, hb⟩
    refine ⟨?_, hb⟩
    unfold apR; rw [if_pos h.1, if_pos h.2]
  · refine (apply_no a d w hd h).mono ?_
    rintro e w' ⟨⟨n, hn, hi, rfl⟩, hb⟩
    refine ⟨?_, hb⟩
    unfold apR
    by_cases ha : a.size ≤ 256
    · obtain rfl := hi.2 ha
      rw [if_pos ha, if_neg (fun h2 => h ⟨ha, h2⟩)]
    · have : n = 40 := by rcases hn with h1 | h1; exact absurd (hi.1 h1) ha; exact h1
      subst this
      rw [if_neg ha]
/-- what comes of a value by deltas, as long as none is refused -/
def seqD : ByteArray → List ByteArray → List (ByteArray × Int)
  | _, [] => []
  | v, d :: l => apR v d :: if (apR v d).2 = 0 then seqD (apR v d).1 l else []
/-- Back's answer -/
def backR : ByteArray → List ByteArray → ByteArray × Int
  | v, [] => (v, 0)
  | v, d :: l => if (apR v d).2 = 0 then backR (apR v d).1 l else (⟨#[]⟩, (apR v d).2)
theorem grown_of_below {W W' : World} (h : Below W.heap.size W W') : W.grownBy W' none := ⟨h.os, h.tape, h.output, h.size, fun k hk _ => h.block k hk⟩

set_option maxRecDepth 100000 in
set_option maxHeartbeats 2000000 in
theorem back1_in (n : Nat) (hn : 1 ≤ n) (l B0 B1 n₀ len cap : Nat) (A : Option Addr) (v0 : ByteArray) (ss : List ByteArray) (hz : ∀ s ∈ ss, s.size ≤ 1000000) (hlen : len ≤ 1000000)
    (J Jx : List (ByteArray × Int) → World → Prop) (H : Nat) (hJ : AbidesFrom H J)
    (hY : ∀ pre x W, J pre W → pre.length < len → YieldAt Fence.wide (n - 1) Try.prog l #[.string x.1, .int .i64 x.2] W fun e W' =>
      (e = .returned (.bool true) ∧ J (pre ++ [x]) W' ∧ Below n₀ W W') ∨ (e = .returned (.bool false) ∧ Jx (pre ++ [x]) W'))
    (W : World) (h0 : W.cell? ⟨B0, 0, none⟩ = some (.string v0)) (h1 : W.cell? ⟨B1, 0, none⟩ = some (.slice A len cap)) (hs : Strs n₀ W A len ss) (hn0 : n₀ ≤ W.heap.size) (hj0 : J [] W) :
    CallsIn Fence.wide n Try.prog 25 #[.func (.yield l) #[] #[], .pointer (some ⟨B0, 0, none⟩), .pointer (some ⟨B1, 0, none⟩)] W fun e W' => (∃ v, e = .returned v) ∧
      ((∃ ys, ys = seqD v0 ss ∧ J ys W') ∨ (∃ pre, pre <+: seqD v0 ss ∧ Jx pre W')) := by
  have Hs := Lib.hid hs
  have Hz := Lib.hid hz
  clear hs hz
  refine callsIn_of_wp Try.func25 rfl trivial ?_ rfl
  simp only [Try.ntmps25, List.size_toArray, List.length_cons, List.length_nil, Nat.reduceAdd, Nat.reduceSub, Array.replicate_succ, Array.replicate_zero, List.push_toArray, List.append_toArray, List.nil_append, List.cons_append]
  gi_wp2
  gi_loopw [4, 12] (fun v i wr => ∃ (k : Nat) (cur : ByteArray) (pre : List (ByteArray × Int)), k ≤ len ∧ i = .int .i64 k ∧ v = .string cur ∧ seqD v0 ss = pre ++ seqD cur (ss.drop k) ∧ pre.length = k ∧ J pre wr ∧ Below n₀ W wr)
    (fun _ i _ => len - (intOf i).toNat)
  case atStart => exact ⟨0, v0, [], Nat.zero_le _, rfl, rfl, rfl, rfl, hj0, Below.refl _ _⟩
  case round =>
    obtain ⟨k, cur, pre, hk, rfl, rfl, hsq, hpl, hJs, hnx⟩ := hrel
    have Hsq := Lib.hid hsq
    have Hpl := Lib.hid hpl
    clear hsq hpl
    by_cases hlt : k < len
    · have hsx := Hs.out.below hnx
      obtain ⟨g, off, rfl, hg, hc⟩ := hsx.2 (by omega)
      have hck := hc k hlt
      have Hss := Lib.hid hsx.1
      obtain ⟨d, hd⟩ : ∃ d, ss.getD k ⟨#[]⟩ = d := ⟨_, rfl⟩
      rw [hd] at hck
      have hdrop : Hid (ss.drop k = d :: ss.drop (k + 1)) := by
        show _ = _
        have hl := Hss.out
        rw [List.drop_eq_getElem_cons (by omega), ← hd, List.getD_eq_getElem?_getD, List.getElem?_eq_getElem (by omega)]
        rfl
      have hdz : d.size ≤ 1000000 := Hz.out d (by
        have := hdrop.out
        have h2 : d ∈ ss.drop k := by rw [this]; exact List.mem_cons_self
        exact List.mem_of_mem_drop h2)
      clear hc hsx hd
      have hplen : pre.length < len := by rw [Hpl.out]; exact hlt
      gi_wp2_with fail
      refine ⟨trivial, ?_⟩
      refine (callsIn_wide.2 (apply_all cur d _ hdz)).mono ?_
      rintro e w1 ⟨rfl, hb1⟩
      have hJ1 : J pre w1 := hJ _ _ _ none hJs (grown_of_below hb1) (fun r e => by cases e)
      have hsz : n₀ ≤ wr.heap.size := Nat.le_trans hn0 (hnx.size)
      have hx1 : Below n₀ W w1 := hnx.trans (hb1.mono hsz)
      obtain ⟨fn, tmps, assign, body, hy, hR⟩ := hY pre (apR cur d) w1 hJ1 hplen
      have hsq : Hid (seqD cur (ss.drop k) = apR cur d :: if (apR cur d).2 = 0 then seqD (apR cur d).1 (ss.drop (k + 1)) else []) := by
        show _ = _; rw [hdrop.out]; rfl
      obtain ⟨x, hx⟩ : ∃ x, apR cur d = x := ⟨_, rfl⟩
      rw [hx] at hy hR hsq ⊢
      obtain ⟨o, er⟩ := x
      dsimp only at hy hR hsq ⊢
      clear hx hb1 hJ1 hJs hnx hck
      by_cases he : er = 0
      · have h1 : (er != 0) = false := by rw [he]; rfl
        have Hsq2 : Hid (seqD v0 ss = (pre ++ [(o, er)]) ++ seqD o (ss.drop (k + 1))) := by
          show _ = _; rw [Hsq.out, hsq.out, if_pos he]; simp
        have Hpl2 : Hid ((pre ++ [(o, er)]).length = k + 1) := by show _ = _; rw [List.length_append, Hpl.out]; rfl
        clear he hsq
        gi_wp2
        refine hR.mono ?_
        rintro e W3 (⟨rfl, hJ3, hk3⟩ | ⟨rfl, hJx3⟩)
        · gi_wp2
          go_roundw
          case rel => exact ⟨k + 1, o, pre ++ [(o, er)], by omega, by simp, rfl, Hsq2.out, Hpl2.out, hJ3, hx1.trans hk3⟩
          case measure => simp [intOf]; omega
        · gi_wp2
          refine bodyPost_ret (results_none rfl _ _ _) rfl ?_
          exact ⟨⟨_, rfl⟩, .inr ⟨_, ⟨_, Hsq2.out.symm⟩, hJx3⟩⟩
      · have h1 : (er != 0) = true := by rw [bne_iff_ne]; exact he
        have Hsq2 : Hid (pre ++ [(o, er)] = seqD v0 ss) := by
          show _ = _; rw [Hsq.out, hsq.out, if_neg he]
        clear he hsq
        gi_wp2
        refine hR.mono ?_
        rintro e W3 (⟨rfl, hJ3, hk3⟩ | ⟨rfl, hJx3⟩)
        · gi_wp2
          refine bodyPost_ret (results_none rfl _ _ _) rfl ?_
          exact ⟨⟨_, rfl⟩, .inl ⟨_, Hsq2.out, hJ3⟩⟩
        · gi_wp2
          refine bodyPost_ret (results_none rfl _ _ _) rfl ?_
          exact ⟨⟨_, rfl⟩, .inr ⟨_, by rw [Hsq2.out]; exact List.prefix_refl _, hJx3⟩⟩
    · obtain rfl : k = len := by omega
      have he : Hid (pre = seqD v0 ss) := by
        show _ = _
        rw [Hsq.out, List.drop_eq_nil_of_le (by have := Hs.out.1; omega)]
        simp [seqD]
      gi_wp2
      go_end0
      exact ⟨⟨_, rfl⟩, .inl ⟨_, he.out, hJs⟩⟩
set_option maxHeartbeats 1000000 in
theorem back_any (n : Nat) (v : ByteArray) (A : Option Addr) (len cap : Nat) (w : World) :
    CallsIn Fence.wide n Try.prog 18 #[.string v, .slice A len cap] w fun e w' => e = .returned (.func (.func 25) #[] #[.pointer (some ⟨w.heap.size, 0, none⟩), .pointer (some ⟨w.heap.size + 1, 0, none⟩)]) ∧
      w' = (w.alloc (.cells #[.string v] 9)).alloc (.cells #[.slice A len cap] 27) := by
  refine callsIn_of_wp Try.func18 rfl trivial ?_ rfl
  simp only [Try.ntmps18, List.size_toArray, List.length_cons, List.length_nil, Nat.reduceAdd, Nat.reduceSub, Array.replicate_succ, Array.replicate_zero, List.push_toArray, List.append_toArray, List.nil_append, List.cons_append]
  gi_wp2
  go_ret
  exact ⟨rfl, rfl⟩
theorem back_stops (n : Nat) (hn : 1 ≤ n) (B0 B1 n₀ len cap : Nat) (A : Option Addr) (v0 : ByteArray) (ss : List ByteArray) (hz : ∀ s ∈ ss, s.size ≤ 1000000) (hlen : len ≤ 1000000)
    (w : World) (hB0 : B0 < w.heap.size) (hB1 : B1 < w.heap.size) (hn0 : n₀ ≤ w.heap.size) (h0 : w.cell? ⟨B0, 0, none⟩ = some (.string v0)) (h1 : w.cell? ⟨B1, 0, none⟩ = some (.slice A len cap)) (hs : Strs n₀ w A len ss) :
    SeqStopsK Fence.wide n Try.prog 25 #[.pointer (some ⟨B0, 0, none⟩), .pointer (some ⟨B1, 0, none⟩)] (fun x : ByteArray × Int => #[Value.string x.1, Value.int .i64 x.2]) (Below n₀)
      (fun ys => ys = seqD v0 ss) (fun pre => pre <+: seqD v0 ss) len w := fun l J Jx W hW hJ _ hY hj0 =>
  back1_in n hn l B0 B1 n₀ len cap A v0 ss hz hlen J Jx W.heap.size hJ hY W ((hW.cell (p := ⟨B0, 0, none⟩) hB0).trans h0) ((hW.cell (p := ⟨B1, 0, none⟩) hB1).trans h1) (hs.below (hW.mono hn0)) (Nat.le_trans hn0 hW.size) hj0
end Go.Proofs.Ythghaagmpneemaa
