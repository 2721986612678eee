/- What else stays; Get16, Put16, the next slot. -/
import Derived.Test.YtbnbhhmgfogjeaaJD
import Derived.StillTailTactics
namespace Go.Proofs.Ytbnbhhmgfogjeaa
open Go.ChangeShapes Go.WideShapes Go.ChangeAt Go.RowKit Go.Maps
set_option linter.unusedVariables false
set_option linter.unusedSimpArgs false

/-- all but two blocks stays -/
structure Fr (w w' : World) (p b : Nat) : Prop where
  os : w'.os = w.os
  tape : w'.tape = w.tape
  output : w'.output = w.output
  size : w.heap.size ≤ w'.heap.size
  block : ∀ k, k < w.heap.size → k ≠ p → k ≠ b → w'.heap[k]? = w.heap[k]?
section
variable {w w' w2 : World} {p b : Nat}
theorem Fr.of_p (h : w.grownBy w' (some p)) : Fr w w' p b := ⟨h.os, h.tape, h.output, h.size, fun k hk h1 _ => h.block k hk (fun e => h1 (Option.some.inj e))⟩
theorem Fr.of_b (h : w.grownBy w' (some b)) : Fr w w' p b := ⟨h.os, h.tape, h.output, h.size, fun k hk _ h2 => h.block k hk (fun e => h2 (Option.some.inj e))⟩
theorem Fr.of_below (h : Below w.heap.size w w') : Fr w w' p b := ⟨h.os, h.tape, h.output, h.size, fun k hk _ _ => h.block k hk⟩
theorem Fr.trans (h : Fr w w' p b) (k : Fr w' w2 p b) : Fr w w2 p b := ⟨k.os.trans h.os, k.tape.trans h.tape, k.output.trans h.output, Nat.le_trans h.size k.size, fun i hi h1 h2 => (k.block i (Nat.lt_of_lt_of_le hi h.size) h1 h2).trans (h.block i hi h1 h2)⟩
theorem Fr.below {w0 : World} {B : Nat} (h : Fr w w' p b) (hb : Below B w0 w) (hB : B ≤ w.heap.size) (h1 : B ≤ p) (h2 : B ≤ b) : Below B w0 w' :=
  ⟨h.os.trans hb.os, h.tape.trans hb.tape, h.output.trans hb.output, Nat.le_trans hb.size h.size, fun k hk => (h.block k (by omega) (by omega) (by omega)).trans (hb.block k hk)⟩
theorem Fr.blk (h : Fr w w' p b) {q : Nat} {c : Array Value} {t : TypeId} (k : Blk w q c t) (h1 : q ≠ p) (h2 : q ≠ b) : Blk w' q c t := (h.block q k.lt h1 h2).trans k
end
theorem grown_of_below' {w w' : World} (h : Below w.heap.size w w') (r : Option Nat) : w.grownBy w' r := ⟨h.os, h.tape, h.output, h.size, fun k hk _ => h.block k hk⟩
section
variable {W : World} {B p b : Nat} {slot fresh last : Int} {C bs : List Int}
theorem PgAt.set1 (h : PgAt W B p b slot fresh last C bs) (x : Int) : PgAt (W.setCell ⟨p, 1, none⟩ (.int .i64 x)) B p b slot x last C bs :=
  ⟨h.hp, by have := h.blk.set (j := 1) (.int .i64 x); simpa [pgv] using this, ⟨h.own.1, h.own.2.kept (grown_set W p 1 _) (fun e => h.ne (Option.some.inj e).symm)⟩, h.ok, h.len⟩
theorem PgAt.set2 (h : PgAt W B p b slot fresh last C bs) (x : Int) : PgAt (W.setCell ⟨p, 2, none⟩ (.int .u16 x)) B p b slot fresh x C bs :=
  ⟨h.hp, by have := h.blk.set (j := 2) (.int .u16 x); simpa [pgv] using this, ⟨h.own.1, h.own.2.kept (grown_set W p 2 _) (fun e => h.ne (Option.some.inj e).symm)⟩, h.ok, h.len⟩
end
set_option maxRecDepth 100000 in
set_option maxHeartbeats 4000000 in
theorem get16_any (B p b : Nat) (s o : Nat) (slot fresh last : Int) (C bs : List Int) (w : World) (h : PgAt w B p b slot fresh last C bs) (hb : isBytes bs) (hs : 2 ≤ s) (ho : o + s ≤ 4096) : Calls Try.prog 66 #[.slice (some ⟨p, 4 + o, none⟩) s (4096 - o), .int .i64 0] w fun e w' => e = .returned (.tuple #[.int .u16 (getI bs o 2), .bool true]) ∧ w = w' := by
  have HG := Lib.hid (get_any B p b s o slot fresh last C bs w h hb hs ho)
  clear h hb hs ho
  go_enter Try.func66, Try.ntmps66
  go_wp2_with fail
  refine HG.out.mono ?_
  rintro e w1 ⟨rfl, rfl⟩
  clear HG
  go_wp2
  go_ret2
  exact ⟨rfl, rfl⟩
set_option maxRecDepth 100000 in
set_option maxHeartbeats 4000000 in
theorem put_any (B p b : Nat) (s o : Nat) (slot fresh last : Int) (C bs : List Int) (m : Int) (w : World) (h : PgAt w B p b slot fresh last C bs) (hm : 0 ≤ m) (hs : 2 ≤ s) (ho : o + s ≤ 4096) : Calls Try.prog 67 #[.slice (some ⟨p, 4 + o, none⟩) s (4096 - o), .int .i64 0, .int .u16 m] w fun e w' => e = .returned (.bool true) ∧ PgAt w' B p b slot fresh last C (putI bs o 2 m) ∧ w.grownBy w' (some p) := by
  have hi : inB s 0 2 = true := by unfold inB; rw [decide_eq_true_eq]; omega
  have HI := Lib.hid hi
  have H := Lib.hid h
  clear h hi
  go_enter Try.func67, Try.ntmps67
  go_wp2_with (first
    | (go_at_call 69; refine (width16 _).mono ?_; rintro e w' ⟨rfl, rfl⟩)
    | (go_at_call 70; refine (within_any _ _ _ _ _ _ (by omega) (by omega) (by omega)).mono ?_; rintro e w' ⟨rfl, rfl⟩; rw [HI.out]))
  go_loopw [2, 8] (fun r i wr => ∃ k : Nat, ∃ m' : Int, ∃ bs' : List Int, 0 ≤ m' ∧ k ≤ 2 ∧ i = .int .i64 ((k : Int) - 1) ∧ r = .int .u16 m' ∧ PgAt wr B p b slot fresh last C bs' ∧ putI bs' o k m' = putI bs o 2 m ∧ w.grownBy wr (some p)) (fun _ i _ => (intOf i + 1).toNat)
  case atStart => exact ⟨2, m, bs, hm, by omega, rfl, rfl, H.out, rfl, World.grownBy.refl _ _⟩
  case round =>
    obtain ⟨k, m', bs', hm', hk, rfl, rfl, hp', hput, hg⟩ := hrel
    have H' := Lib.hid hp'
    have Hput := Lib.hid hput
    have Hg := Lib.hid hg
    clear hp' hput hg H
    by_cases hlt : 1 ≤ k
    · obtain ⟨j, rfl⟩ : ∃ j, k = j + 1 := ⟨k - 1, by omega⟩
      have hc : wr.cell? ⟨p, 4 + o + j, none⟩ = some (.int .u8 (bs'.getD (o + j) 0)) := by
        have := H'.out.cb (j := o + j) (by have := H'.out.len; omega)
        rwa [show 4 + (o + j) = 4 + o + j from by omega] at this
      have hf : wr.frozen? ⟨p, 4 + o + j, none⟩ = false := H'.out.blk.frozen _
      have hst := H'.out.setb (o + j) (m' % 256)
      rw [show 4 + (o + j) = 4 + o + j from by omega] at hst
      have Hst := Lib.hid hst
      have Hg2 : Hid (w.grownBy (wr.setCell ⟨p, 4 + o + j, none⟩ (.int .u8 (m' % 256))) (some p)) := grown_trans Hg.out (grown_set wr p _ _)
      have hj1 : ((j + 1 : Nat) : Int) - 1 = (j : Int) := by omega
      rw [hj1]
      clear hst hj1
      go_wp2
      go_roundw
      case rel =>
        refine ⟨j, m' / 256, bs'.set (o + j) (m' % 256), by omega, by omega, ?_, rfl, Hst.out, ?_, Hg2.out⟩
        · first | rfl | (congr 1; omega)
        · exact Hput.out
      case measure => simp [intOf] <;> omega
    · obtain rfl : k = 0 := by omega
      have HP := Hput.out
      have HF : Hid (PgAt wr B p b slot fresh last C (putI bs o 2 m)) := by rw [← HP]; exact H'.out
      clear HP
      go_wp2
      go_ret
      exact ⟨rfl, HF.out, Hg.out⟩
set_option maxRecDepth 100000 in
set_option maxHeartbeats 4000000 in
theorem put16_any (B p b : Nat) (s o : Nat) (slot fresh last : Int) (C bs : List Int) (m : Int) (w : World) (h : PgAt w B p b slot fresh last C bs) (hm : 0 ≤ m) (hs : 2 ≤ s) (ho : o + s ≤ 4096) : Calls Try.prog 62 #[.slice (some ⟨p, 4 + o, none⟩) s (4096 - o), .int .i64 0, .int .u16 m] w fun e w' => e = .returned (.bool true) ∧ PgAt w' B p b slot fresh last C (putI bs o 2 m) ∧ w.grownBy w' (some p) := by
  have HG := Lib.hid (put_any B p b s o slot fresh last C bs m w h hm hs ho)
  clear h hm hs ho
  go_enter Try.func62, Try.ntmps62
  go_wp2_with fail
  refine HG.out.mono ?_
  rintro e w1 ⟨rfl, h1, h2⟩
  have H1 := Lib.hid h1
  have H2 := Lib.hid h2
  clear HG h1 h2
  go_wp2
  go_ret
  exact ⟨rfl, H1.out, H2.out⟩
set_option maxRecDepth 100000 in
set_option maxHeartbeats 4000000 in
theorem next_fresh (B p b : Nat) (slot fresh : Int) (C bs : List Int) (w : World) (h : PgAt w B p b slot fresh 65535 C bs) (h0 : 0 ≤ fresh) (h1 : fresh ≤ 4096) (h2 : 0 ≤ slot) (h3 : slot ≤ 4096) : Calls Try.prog 58 #[.pointer (some ⟨p, 0, none⟩)] w fun e w' => e = .returned (.int .u16 fresh) ∧ PgAt w' B p b slot (fresh + slot) 65535 C bs ∧ w.grownBy w' (some p) := by
  have H := Lib.hid h
  have wf : IntKind.u16.wrap fresh = fresh := by rw [IntKind.wrap_u16]; exact Int.emod_eq_of_lt h0 (by omega)
  have wf2 : fresh % 65536 = fresh := Int.emod_eq_of_lt h0 (by omega)
  have wa : IntKind.i64.wrap (fresh + slot) = fresh + slot := IntWalk.i64_in _ (by omega)
  have c1 := h.c1
  have c2 := h.c2
  clear h
  go_enter Try.func58, Try.ntmps58
  go_upto_region 4 with (fail)
  have HD := Lib.hid (H.out.later (Below.drew (Below.refl w.heap.size w)))
  have e1 := HD.out.c1
  have e0 := HD.out.c0
  have ef := HD.out.blk.frozen 1
  have k0 := H.out.c0
  go_still_tail 11, (by kernel_rfl)
  change wpList _ _ _ _ _ w.drew
  have HF : Hid (PgAt (w.drew.setCell ⟨p, 1, none⟩ (.int .i64 (fresh + slot))) B p b slot (fresh + slot) 65535 C bs) := HD.out.set1 _
  have HG : Hid (w.grownBy (w.drew.setCell ⟨p, 1, none⟩ (.int .i64 (fresh + slot))) (some p)) := grown_trans (grown_of_below' (Below.drew (Below.refl _ _)) (some p)) (grown_set _ p _ _)
  go_wp2
  go_ret
  exact ⟨rfl, HF.out, HG.out⟩
set_option maxRecDepth 100000 in
set_option maxHeartbeats 4000000 in
theorem next_back (B p b s o : Nat) (fresh : Int) (C bs : List Int) (w : World) (h : PgAt w B p b (s : Int) fresh (o : Int) C bs) (hb : isBytes bs) (hs : 2 ≤ s) (ho : o + s ≤ 4096) : Calls Try.prog 58 #[.pointer (some ⟨p, 0, none⟩)] w fun e w' => e = .returned (.int .u16 (o : Int)) ∧ PgAt w' B p b (s : Int) fresh (getI bs o 2) C bs ∧ w.grownBy w' (some p) := by
  have H := Lib.hid h
  have HGT : Hid (∀ W, PgAt W B p b (s : Int) fresh (o : Int) C bs → Calls Try.prog 66 #[.slice (some ⟨p, 4 + o, none⟩) s (4096 - o), .int .i64 0] W fun e w' => e = .returned (.tuple #[.int .u16 (getI bs o 2), .bool true]) ∧ W = w') := fun W hW => get16_any B p b s o (s : Int) fresh (o : Int) C bs W hW hb hs ho
  generalize getI bs o 2 = g at *
  have c2 := h.c2
  have d1 : ((o : Int) == 65535) = false := by rw [beq_eq_false_iff_ne]; omega
  clear h hb
  go_enter Try.func58, Try.ntmps58
  go_wp2_with fail
  refine (at_any B p b s o fresh (o : Int) C bs w H.out hs ho).mono ?_
  rintro e w1 ⟨rfl, hb1⟩
  have H1 := Lib.hid (H.out.later hb1)
  have HB1 := Lib.hid hb1
  clear hb1 c2 H
  go_wp2_with fail
  refine (HGT.out w1 H1.out).mono ?_
  rintro e w2 ⟨rfl, rfl⟩
  clear HGT
  have c2 := H1.out.c2
  have f2 := H1.out.blk.frozen 2
  have HF : Hid (PgAt (w1.setCell ⟨p, 2, none⟩ (.int .u16 g)) B p b (s : Int) fresh g C bs) := H1.out.set2 _
  have HG : Hid (w.grownBy (w1.setCell ⟨p, 2, none⟩ (.int .u16 g)) (some p)) := grown_trans (grown_of_below' HB1.out (some p)) (grown_set _ p _ _)
  clear H1 HB1
  go_wp2
  go_ret
  exact ⟨rfl, HF.out, HG.out⟩
end Go.Proofs.Ytbnbhhmgfogjeaa
