/- What the document's functions do. -/
import Derived.Test.YtgjponobiplipaaP1
namespace Go.Proofs.Ytgjponobiplipaa
open Go.ChangeShapes Go.WideShapes Go.ChangeAt Go.RowKit Go.Maps
set_option linter.unusedVariables false
set_option linter.unusedSimpArgs false

set_option maxRecDepth 100000 in
set_option maxHeartbeats 4000000 in
theorem rowner_any (B p : Nat) (v : Value) (L : List Ct) (z : Int) (w : World) (h : RfAt w B p v L) (hn : L.length ≤ 1000) : Calls Try.prog 22 #[.pointer (some ⟨p, 0, none⟩), .agg #[.int .u8 (z / 18446744073709551616), .int .u64 (z % 18446744073709551616)]] w fun x w' => x = .returned (.tuple #[.int .i64 (ofC L z), .bool (isC L z)]) ∧ Below w.heap.size w w' := by
  obtain ⟨A, c, rfl, hlc, hnA, hs⟩ := h.row
  have hb0 : Below w.heap.size w (w.alloc (.cells #[.int .u8 (z / 18446744073709551616), .int .u64 (z % 18446744073709551616)] 37)) := (Below.refl _ _).alloc (Nat.le_refl _) _
  have HB := Lib.hid hb0
  have H1 := Lib.hid (h.later hb0)
  have HS := Lib.hid (hs.later hb0)
  have HX := Lib.hid (Blk.new w #[.int .u8 (z / 18446744073709551616), .int .u64 (z % 18446744073709551616)] 37)
  clear h hs hb0
  go_enter Try.func22, Try.ntmps22
  go_wp2_with fail
  generalize hw1 : (w.alloc (.cells #[.int .u8 (z / 18446744073709551616), .int .u64 (z % 18446744073709551616)] 37)) = w1 at *
  clear hw1
  go_loopw [6] (fun i wr => ∃ k : Nat, k ≤ L.length ∧ i = .int .i64 k ∧ (∀ j, j < k → (L.getD j ct0).1 ≠ z) ∧ Below w1.heap.size w1 wr) (fun i _ => L.length - (intOf i).toNat)
  case atStart => exact ⟨0, Nat.zero_le _, rfl, fun j hj => by omega, Below.refl _ _⟩
  case round =>
    obtain ⟨k, hk, rfl, hall, hb⟩ := hrel
    have HALL := Lib.hid hall
    have HB1 := Lib.hid hb
    have HBW : Hid (Below w.heap.size w wr) := HB.out.trans (hb.mono (by have := HX.out.lt; omega))
    have k0 := (H1.out.later hb).blk.cell 0
    have n0 := (HX.out.later hb).cell 0
    have n1 := (HX.out.later hb).cell 1
    simp only [List.getElem?_toArray, List.getElem?_cons_zero, List.getElem?_cons_succ] at k0 n0 n1
    by_cases hlt : k < L.length
    · have d2 : decide ((k : Int) < (L.length : Int)) = true := decide_eq_true (by omega)
      have wk : IntKind.i64.wrap ((k : Int) + 1) = (k : Int) + 1 := IntWalk.i64_in _ (by omega)
      obtain ⟨g, off, rfl, hg, hcell⟩ := (HS.out.later hb).2 (by omega)
      obtain ⟨x0, x1, x2⟩ := hcell k hlt
      have i1 := hindex g off L.length c k (k : Int) rfl hlt
      have HF := Lib.hid (fun e => first_hit (z := z) hlt hall e)
      obtain ⟨⟨y, t⟩, hy⟩ : ∃ x, L.getD k ct0 = x := ⟨_, rfl⟩
      rw [hy] at x0 x1 x2
      have HY := Lib.hid hy
      try simp only at x0 x1 x2
      clear hcell hall hb hg
      by_cases e : y = z
      · subst e
        have qe : ∀ W, (binOp BinOp.eql 37 (.agg #[.int .u8 (y / 18446744073709551616), .int .u64 (y % 18446744073709551616)]) (.agg #[.int .u8 (y / 18446744073709551616), .int .u64 (y % 18446744073709551616)])).run Try.prog W = .ok (.bool true) W := fun W => by rw [eq37]; simp
        have HF2 := Lib.hid (HF.out (by rw [HY.out]))
        have HR : Hid (ofC L y = t ∧ isC L y = true) := ⟨by rw [HF2.out.2, HY.out], HF2.out.1⟩
        clear HF HF2 HY hy
        generalize y / 18446744073709551616 = zk at *
        generalize y % 18446744073709551616 = zi at *
        go_upto_region 4 with (fail)
        go_quiet (fail)
        go_wp2
        go_ret2
        exact ⟨ret2 (congrArg (Value.int .i64) HR.out.1.symm) (congrArg Value.bool HR.out.2.symm), below_drewN HBW.out nq⟩
      · have qe : ∀ W, (binOp BinOp.eql 37 (.agg #[.int .u8 (y / 18446744073709551616), .int .u64 (y % 18446744073709551616)]) (.agg #[.int .u8 (z / 18446744073709551616), .int .u64 (z % 18446744073709551616)])).run Try.prog W = .ok (.bool false) W := fun W => by rw [eq37, decide_eq_false e]
        have HN2 : Hid (∀ j, j < k + 1 → (L.getD j ct0).1 ≠ z) := fun j hj => by
          by_cases ej : j = k
          · subst ej; rw [HY.out]; exact e
          · exact HALL.out j (by omega)
        clear HF hy e
        generalize hyk : y / 18446744073709551616 = yk at *
        generalize hyi : y % 18446744073709551616 = yi at *
        generalize hzk : z / 18446744073709551616 = zk at *
        generalize hzi : z % 18446744073709551616 = zi at *
        clear hyk hyi hzk hzi
        go_upto_region 4 with (fail)
        go_quiet (fail)
        clear x0 x1 x2 i1 k0 n0 n1 qe
        go_wp2
        go_roundw
        case rel => exact ⟨k + 1, by omega, by go_num, HN2.out, below_drewN HB1.out nq⟩
        case measure => simp [intOf]; omega
    · obtain rfl : k = L.length := by omega
      have d2 : decide ((L.length : Int) < (L.length : Int)) = false := decide_eq_false (by omega)
      have HI := Lib.hid (no_hit hall)
      have HO := Lib.hid (of_none0 HI.out)
      clear hall hb n0 n1
      go_wp2
      go_ret2
      exact ⟨ret2 (congrArg (Value.int .i64) HO.out.symm) (congrArg Value.bool HI.out.symm), HBW.out⟩
set_option maxRecDepth 100000 in
set_option maxHeartbeats 4000000 in
theorem rheld_any (B p : Nat) (v : Value) (L : List Ct) (t : Int) (w : World) (h : RfAt w B p v L) (hn : L.length ≤ 1000) : Calls Try.prog 23 #[.pointer (some ⟨p, 0, none⟩), .int .i64 t] w (HeldEnd (heldC L t) w) := by
  obtain ⟨A, c, rfl, hlc, hnA, hs⟩ := h.row
  have H := Lib.hid h
  have HS := Lib.hid hs
  obtain ⟨i0, hi, hz0, hz1, hz2⟩ := info_parts n37info
  clear h hs
  go_enter Try.func23, Try.ntmps23
  go_wp2
  go_loopw [5, 6] (fun v i wr => ∃ k : Nat, k ≤ L.length ∧ i = .int .i64 k ∧ NOwn 37 wr w.heap.size v (heldC (L.take k) t) ∧ Below w.heap.size w wr) (fun _ i _ => L.length - (intOf i).toNat)
  case atStart => exact ⟨0, Nat.zero_le _, rfl, NOwn.nil _ _ _, Below.refl _ _⟩
  case round =>
    obtain ⟨k, hk, rfl, ho, hb⟩ := hrel
    have hln : (heldC (L.take k) t).length ≤ 1000 := by have := held_len (L.take k) t; rw [List.length_take] at this; omega
    obtain ⟨Ao, co, rfl, _⟩ := ho.sl
    have HO := Lib.hid ho
    have HB := Lib.hid hb
    have k0 := (H.out.later hb).blk.cell 0
    simp only [List.getElem?_toArray, List.getElem?_cons_zero] at k0
    clear ho hb
    by_cases hlt : k < L.length
    · have d2 : decide ((k : Int) < (L.length : Int)) = true := decide_eq_true (by omega)
      have wk : IntKind.i64.wrap ((k : Int) + 1) = (k : Int) + 1 := IntWalk.i64_in _ (by omega)
      obtain ⟨g, off, rfl, hg, hcell⟩ := (HS.out.later HB.out).2 (by omega)
      obtain ⟨x0, x1, x2⟩ := hcell k hlt
      have i1 := hindex g off L.length c k (k : Int) rfl hlt
      have HT := Lib.hid (held_take t hlt)
      obtain ⟨⟨y, u⟩, hy⟩ : ∃ x, L.getD k ct0 = x := ⟨_, rfl⟩
      rw [hy] at x0 x1 x2 HT
      generalize heldC (L.take k) t = xs at *
      try simp only at x0 x1 x2
      clear hcell hy hg
      by_cases e : u = t
      · subst e
        have de : (u == u) = true := by simp
        have HT2 : Hid (heldC (L.take (k + 1)) u = xs ++ [y]) := HT.out.trans (by simp)
        have hb2 : Below wr.heap.size wr (wr.alloc (.cells #[.int .u8 (y / 18446744073709551616), .int .u64 (y % 18446744073709551616)] 37)) := (Below.refl _ _).alloc (Nat.le_refl _) _
        have HO2 := Lib.hid (HO.out.later hb2)
        have HB2 := Lib.hid (stepB HB.out hb2)
        have HX := Lib.hid (Blk.new wr #[.int .u8 (y / 18446744073709551616), .int .u64 (y % 18446744073709551616)] 37)
        have HONE := Lib.hid (blk_oneN HX.out)
        clear hb2 HO HB HX HT
        go_wp2_with (at_builtin; refine wpList_append_own _ rfl (.tmp 26) (.tmp 35) 35 rfl w.heap.size 37 i0 _ 2 16 Try.underlying35 hi hz0 hz1 hz2 rfl (by decide) _ xs.length (nmvs xs) rfl HO2.out ⟨wr.heap.size, 0, none⟩ 1 1 (nmvs [y]) rfl rfl HONE.out (nmvs_one _) (by unfold maxLen; omega) (by omega) HB2.out.size ?_; intro v5 w5 ho5 hg5)
        intro hnil5
        have ho6 : NOwn 37 w5 w.heap.size v5 (xs ++ [y]) := by unfold NOwn; rw [nmvs_app, List.length_append]; exact ho5
        have HB5 : Hid (Below w.heap.size w w5) := HB2.out.grown hg5 HB2.out.size (fun j e => (HO2.out.lt j e).1)
        obtain ⟨A5, c5, rfl, _⟩ := ho6.sl
        have HO6 := Lib.hid ho6
        clear ho5 ho6 hg5 hnil5 HO2 HB2 x0 x1 x2 HONE i1 k0
        go_wp2
        go_roundw
        case rel => exact ⟨k + 1, by omega, by go_num, by rw [HT2.out]; exact HO6.out, HB5.out⟩
        case measure => simp [intOf]; omega
      · have de : (u == t) = false := ieq_no e
        have HT2 : Hid (heldC (L.take (k + 1)) t = xs) := HT.out.trans (by simp [e])
        clear HT e
        go_wp2
        go_roundw
        case rel => exact ⟨k + 1, by omega, by go_num, by rw [HT2.out]; exact HO.out, HB.out⟩
        case measure => simp [intOf]; omega
    · obtain rfl : k = L.length := by omega
      have d2 : decide ((L.length : Int) < (L.length : Int)) = false := decide_eq_false (by omega)
      have HO2 : Hid (NOwn 37 wr w.heap.size (.slice Ao (heldC (L.take L.length) t).length co) (heldC (L.take L.length) t)) := HO.out
      rw [List.take_length] at HO2
      have HLL : Hid ((heldC (L.take L.length) t).length = (heldC L t).length) := by show _ = _; rw [List.take_length]
      clear HO
      go_wp2
      go_ret
      exact ⟨_, _, by rw [← HLL.out]; rfl, HO2.out.nsl, HB.out⟩
def RfEnd (B p : Nat) (L : List Ct) (r : Bool) (w : World) (x : Ending) (w' : World) : Prop := x = .returned (.bool r) ∧ ∃ v', RfAt w' B p v' L ∧ w.grownBy w' (some p)
theorem rf_end {B p : Nat} {M L : List Ct} {r r' : Bool} {v' : Value} {w w' : World} (hr : r' = r) (hL : M = L) (h : RfAt w' B p v' M) (hg : w.grownBy w' (some p)) : RfEnd B p L r w (.returned (.bool r')) w' := by subst hr hL; exact ⟨rfl, _, h, hg⟩
def RCopyEnd (L : List Ct) (w : World) (x : Ending) (w' : World) : Prop := ∃ q v', x = .returned (.pointer (some ⟨q, 0, none⟩)) ∧ RfAt w' w.heap.size q v' L ∧ Below w.heap.size w w'
set_option maxRecDepth 100000 in
set_option maxHeartbeats 4000000 in
theorem rcopy_any (B p : Nat) (v : Value) (L : List Ct) (w : World) (h : RfAt w B p v L) (hn : L.length ≤ 1000) : Calls Try.prog 19 #[.pointer (some ⟨p, 0, none⟩)] w (RCopyEnd L w) := by
  obtain ⟨A, c, rfl, hlc, hnA, hs⟩ := h.row
  have hb0 : Below w.heap.size w (w.alloc (.cells #[] 61)) := (Below.refl _ _).alloc (Nat.le_refl _) _
  have H1 := Lib.hid (h.later hb0)
  have HS1 := Lib.hid (hs.later hb0)
  have HB1 := Lib.hid hb0
  have HO1 : Hid (HOwn (w.alloc (.cells #[] 61)) w.heap.size (.slice (some ⟨w.heap.size, 0, none⟩) 0 0) 0 []) := HOwn.fresh w (Nat.le_refl _) rfl
  have k0 := H1.out.blk.cell 0
  simp only [List.getElem?_toArray, List.getElem?_cons_zero] at k0
  clear h hs hb0
  go_enter Try.func19, Try.ntmps19
  go_wp2_with (at_builtin; refine append_hd rfl (.tmp 3) (.tmp 7) rfl w.heap.size _ 0 [] rfl HO1.out A L.length c L rfl HS1.out hnA (by omega) HB1.out.size ?_; intro v2 w2 ho2)
  intro hg2
  rw [Nat.zero_add, List.nil_append] at ho2
  have hb2 : Below w.heap.size w w2 := HB1.out.grown hg2 HB1.out.size (fun k e => (HO1.out.lt k e).1)
  have hb3 : Below w2.heap.size w2 (w2.alloc (.cells #[v2] 42)) := (Below.refl _ _).alloc (Nat.le_refl _) _
  have HF : Hid (RfAt (w2.alloc (.cells #[v2] 42)) w.heap.size w2.heap.size v2 L) := ⟨hb2.size, Blk.new _ _ _, ho2.later hb3⟩
  have HB3 := Lib.hid (stepB hb2 hb3)
  obtain ⟨A2, c2, rfl, _⟩ := ho2.sl
  clear ho2 hb2 hb3 hg2 H1 HS1 HB1 HO1 k0
  go_wp2
  go_ret
  exact ⟨_, _, rfl, HF.out, HB3.out⟩
end Go.Proofs.Ytgjponobiplipaa
