/- Free. -/
import Derived.Test.YtbnbhhmgfogjeaaJF
import Derived.Deep.RegionWith
namespace Go.Proofs.Ytbnbhhmgfogjeaa
open Go.ChangeShapes Go.WideShapes Go.ChangeAt Go.RowKit Go.Maps
set_option linter.unusedVariables false
set_option linter.unusedSimpArgs false

/-- a page, and all else as it was -/
structure PF (w W : World) (B p b : Nat) (slot fresh last : Int) (C bs : List Int) : Prop where
  a : PgAt W B p b slot fresh last C bs
  f : Fr w W p b
section
variable {w W W' : World} {B p b : Nat} {slot fresh last : Int} {C bs : List Int}
theorem PF.later (h : PF w W B p b slot fresh last C bs) (hb : Below W.heap.size W W') : PF w W' B p b slot fresh last C bs := ⟨h.a.later hb, h.f.trans (Fr.of_below hb)⟩
theorem PF.drew (h : PF w W B p b slot fresh last C bs) : PF w W.drew B p b slot fresh last C bs := h.later (Below.drew (Below.refl _ _))
end
set_option maxRecDepth 100000 in
set_option maxHeartbeats 4000000 in
theorem free_no (B p b : Nat) (slot fresh last : Int) (C bs : List Int) (x : Int) (w : World) (h : PgAt w B p b slot fresh last C bs) (hx : (Lit.int .u16 x).wf = true) (hi : isC C x = false) : Calls Try.prog 39 #[.pointer (some ⟨p, 0, none⟩), .int .u16 x] w fun e w' => e = .returned (.int .i64 5) ∧ Below w.heap.size w w' := by
  have HR := Lib.hid (refused_any B p b slot fresh last C bs x w h hx 5 (by rw [hi]; rfl))
  clear h hx hi
  go_enter Try.func39, Try.ntmps39
  go_wp2_with fail
  refine HR.out.mono ?_
  rintro e w1 ⟨rfl, hb⟩
  have HB := Lib.hid hb
  clear hb HR
  go_wp2
  go_ret
  exact ⟨rfl, HB.out⟩
set_option maxRecDepth 100000 in
set_option maxHeartbeats 4000000 in
theorem free_of (B p b s o : Nat) (fresh last : Int) (C bs : List Int) (w : World) (h : PgAt w B p b (s : Int) fresh last C bs) (hs : 2 ≤ s) (ho : o + s ≤ 4096) (hl : 0 ≤ last) (hi : isC C (o : Int) = true) : Calls Try.prog 39 #[.pointer (some ⟨p, 0, none⟩), .int .u16 (o : Int)] w fun e w' => e = .returned (.int .i64 0) ∧ PgAt w' B p b (s : Int) fresh (o : Int) (delC C o) (putI bs o 2 last) ∧ Fr w w' p b := by
  have hx : (Lit.int .u16 (o : Int)).wf = true := wf16 (by omega) (by omega)
  have HR := Lib.hid (refused_any B p b (s : Int) fresh last C bs o w h hx 0 (by rw [hi]; rfl))
  have H := Lib.hid h
  clear h hi
  go_enter Try.func39, Try.ntmps39
  go_wp2_with fail
  refine HR.out.mono ?_
  rintro e w1 ⟨rfl, hb⟩
  have H1 := Lib.hid (H.out.later hb)
  have HF1 : Hid (Fr w w1 p b) := Fr.of_below hb
  have k3 := H1.out.c3
  have HM := Lib.hid H1.out.own.2
  clear hb HR H
  go_wp2_with (first
    | (at_delete; refine wpList_delete_own _ rfl _ _ 99 41 rfl 98 law23 Try.underlying99 _ b C.length _ rfl HM.out _ _ rfl (keyOf_int_mk Try.underlying41 hx) ?_; intro w2 ho2)
    | go_in)
  intro ht2
  rw [del_dm] at ho2
  have HA : Hid (PF w w2 B p b (s : Int) fresh last (delC C o) bs) := ⟨H1.out.turned ht2.grown ho2 (H1.out.ok.del _), HF1.out.trans (Fr.of_b ht2.grown)⟩
  clear ho2 ht2 k3 HM H1 HF1
  obtain ⟨C2, hC2⟩ : ∃ x, delC C (o : Int) = x := ⟨_, rfl⟩
  rw [hC2] at HA
  have HC := Lib.hid hC2
  clear hC2
  have HAT : Hid (∀ W, PF w W B p b (s : Int) fresh last C2 bs → Calls Try.prog 59 #[.pointer (some ⟨p, 0, none⟩), .int .u16 (o : Int)] W fun e w' => e = .returned (.slice (some ⟨p, 4 + o, none⟩) s (4096 - o)) ∧ PF w w' B p b (s : Int) fresh last C2 bs) := fun W hW => (at_any B p b s o fresh last C2 bs W hW.a hs ho).mono (fun _ _ h => ⟨h.1, hW.later h.2⟩)
  have HPU : Hid (∀ W, PF w W B p b (s : Int) fresh last C2 bs → Calls Try.prog 62 #[.slice (some ⟨p, 4 + o, none⟩) s (4096 - o), .int .i64 0, .int .u16 last] W fun e w' => e = .returned (.bool true) ∧ PF w w' B p b (s : Int) fresh last C2 (putI bs o 2 last)) := fun W hW => (put16_any B p b s o (s : Int) fresh last C2 bs last W hW.a hl hs ho).mono (fun _ _ h => ⟨h.1, h.2.1, hW.f.trans (Fr.of_p h.2.2)⟩)
  have hA := HA.out
  have y1 := hA.a.c2
  have y2 := hA.drew.a.c2
  go_upto_region 5 with (fail)
  go_region_with (first
    | (go_at_call 59; refine (HAT.out _ (by first | assumption | exact PF.drew (by assumption))).mono ?_; rintro e wz ⟨rfl, hA⟩; have yz := hA.a.c2; have yzd := hA.drew.a.c2)
    | (go_at_call 62; refine (HPU.out _ (by first | assumption | exact PF.drew (by assumption))).mono ?_; rintro e wy ⟨rfl, hA⟩))
  all_goals (
    have HY := Lib.hid hA
    have f2 := hA.a.blk.frozen 2
    have f2d := hA.drew.a.blk.frozen 2
    have k2 := hA.a.c2
    have HF := Lib.hid (hA.a.set2 (o : Int))
    have HG : Hid (Fr w _ p b) := hA.f.trans (Fr.of_p (grown_set _ p 2 (.int .u16 (o : Int))))
    clear hA
    go_wp2
    go_ret
    exact ⟨rfl, by rw [HC.out]; exact HF.out, HG.out⟩)
end Go.Proofs.Ytbnbhhmgfogjeaa
