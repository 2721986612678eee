/-
What is put into any bytes, and got of them, at any place, of each width, is the document s; no condition.
-/
import Derived.Test.YtlkmaompkkdacaaF
namespace Go.Proofs.Ytlkmaompkkdacaa.bitsTells
open Go.ChangeShapes Go.WideShapes Go.ChangeAt Go.RowKit
set_option linter.unusedVariables false

theorem own : ownKnob Try.prog.godebug = none := by kernel_rfl
theorem laidOut : laidOutB Try.prog = true := by kernel_rfl
theorem cells5 : Try.prog.cellsOf 5 = 1 := by kernel_rfl

set_option maxRecDepth 100000 in
set_option maxHeartbeats 4000000 in
theorem walk_in (A : Option Addr) (n c : Nat) (bs : List Int) (a1 m : Int) (w : World) (rd : RdB w A n bs) (ib : isBytes bs) (mx : n ≤ 5000) (nl : A = none → c = 0) (h0 : 0 ≤ m) (h1 : m ≤ 18446744073709551615) :
    Calls Try.prog 4 #[.slice A n c, .int .i64 a1, .int .u64 m] w fun e w' => e = .returned (.bool true) ∧ Below w.heap.size w w' := by
  have Rd := Lib.hid rd
  have Ib := Lib.hid ib
  clear rd ib
  go_enter Try.func4, Try.ntmps4
  have hb0 : Below w.heap.size w w := Below.refl _ _
  go_wp2_with fail
  refine (own_row _ _ _ bs _ (Rd.out.below hb0) (by omega) nl).mono ?_
  rintro e w1 ⟨gx, cx, rfl, sx, r, hb⟩
  have Rx1 := Lib.hid r
  have hb1 := hb0.trans (hb.mono hb0.size)
  have Sx : w.heap.size ≤ gx := Nat.le_trans hb0.size sx
  clear sx r hb
  go_wp2_with fail
  refine (own_row _ _ _ bs _ (Rd.out.below hb1) (by omega) nl).mono ?_
  rintro e w2 ⟨gy, cy, rfl, sy, r, hb⟩
  have Ry2 := Lib.hid r
  have Rx2 := Lib.hid (Rx1.out.below hb Rx1.out.lt)
  have lxy : gx < gy := Nat.lt_of_lt_of_le Rx1.out.lt sy
  clear Rx1
  have hb2 := hb1.trans (hb.mono hb1.size)
  have Sy : w.heap.size ≤ gy := Nat.le_trans hb1.size sy
  clear sy r hb
  go_wp2_with fail
  refine (own_row _ _ _ bs _ (Rd.out.below hb2) (by omega) nl).mono ?_
  rintro e w3 ⟨gz, cz, rfl, sz, r, hb⟩
  have Rz3 := Lib.hid r
  have Rx3 := Lib.hid (Rx2.out.below hb Rx2.out.lt)
  have lxz : gx < gz := Nat.lt_of_lt_of_le Rx2.out.lt sz
  have Ry3 := Lib.hid (Ry2.out.below hb Ry2.out.lt)
  have lyz : gy < gz := Nat.lt_of_lt_of_le Ry2.out.lt sz
  clear Rx2
  clear Ry2
  have hb3 := hb2.trans (hb.mono hb2.size)
  have Sz : w.heap.size ≤ gz := Nat.le_trans hb2.size sz
  clear sz r hb
  go_wp2_with fail
  refine (own_row _ _ _ bs _ (Rd.out.below hb3) (by omega) nl).mono ?_
  rintro e w4 ⟨gu, cu, rfl, su, r, hb⟩
  have Ru4 := Lib.hid r
  have Rx4 := Lib.hid (Rx3.out.below hb Rx3.out.lt)
  have lxu : gx < gu := Nat.lt_of_lt_of_le Rx3.out.lt su
  have Ry4 := Lib.hid (Ry3.out.below hb Ry3.out.lt)
  have lyu : gy < gu := Nat.lt_of_lt_of_le Ry3.out.lt su
  have Rz4 := Lib.hid (Rz3.out.below hb Rz3.out.lt)
  have lzu : gz < gu := Nat.lt_of_lt_of_le Rz3.out.lt su
  clear Rx3
  clear Ry3
  clear Rz3
  have hb4 := hb3.trans (hb.mono hb3.size)
  have Su : w.heap.size ≤ gu := Nat.le_trans hb3.size su
  clear su r hb
  go_wp2_with fail
  refine (own_row _ _ _ bs _ (Rd.out.below hb4) (by omega) nl).mono ?_
  rintro e w5 ⟨gv, cv, rfl, sv, r, hb⟩
  have Rv5 := Lib.hid r
  have Rx5 := Lib.hid (Rx4.out.below hb Rx4.out.lt)
  have lxv : gx < gv := Nat.lt_of_lt_of_le Rx4.out.lt sv
  have Ry5 := Lib.hid (Ry4.out.below hb Ry4.out.lt)
  have lyv : gy < gv := Nat.lt_of_lt_of_le Ry4.out.lt sv
  have Rz5 := Lib.hid (Rz4.out.below hb Rz4.out.lt)
  have lzv : gz < gv := Nat.lt_of_lt_of_le Rz4.out.lt sv
  have Ru5 := Lib.hid (Ru4.out.below hb Ru4.out.lt)
  have luv : gu < gv := Nat.lt_of_lt_of_le Ru4.out.lt sv
  clear Rx4
  clear Ry4
  clear Rz4
  clear Ru4
  have hb5 := hb4.trans (hb.mono hb4.size)
  have Sv : w.heap.size ≤ gv := Nat.le_trans hb4.size sv
  clear sv r hb
  go_wp2_with fail
  refine (own_row _ _ _ bs _ (Rd.out.below hb5) (by omega) nl).mono ?_
  rintro e w6 ⟨gt, ct, rfl, st, r, hb⟩
  have Rt6 := Lib.hid r
  have Rx6 := Lib.hid (Rx5.out.below hb Rx5.out.lt)
  have lxt : gx < gt := Nat.lt_of_lt_of_le Rx5.out.lt st
  have Ry6 := Lib.hid (Ry5.out.below hb Ry5.out.lt)
  have lyt : gy < gt := Nat.lt_of_lt_of_le Ry5.out.lt st
  have Rz6 := Lib.hid (Rz5.out.below hb Rz5.out.lt)
  have lzt : gz < gt := Nat.lt_of_lt_of_le Rz5.out.lt st
  have Ru6 := Lib.hid (Ru5.out.below hb Ru5.out.lt)
  have lut : gu < gt := Nat.lt_of_lt_of_le Ru5.out.lt st
  have Rv6 := Lib.hid (Rv5.out.below hb Rv5.out.lt)
  have lvt : gv < gt := Nat.lt_of_lt_of_le Rv5.out.lt st
  clear Rx5
  clear Ry5
  clear Rz5
  clear Ru5
  clear Rv5
  have hb6 := hb5.trans (hb.mono hb5.size)
  have St : w.heap.size ≤ gt := Nat.le_trans hb5.size st
  clear st r hb
  go_wp2_with fail
  refine (Put16_any _ _ _ _ _ _ _ Rx6.out (by omega) (wrap16_nn m)).mono ?_
  rintro e w7 ⟨rfl, r, hg⟩
  have Rx7 := Lib.hid r
  have Ry7 := Lib.hid (Ry6.out.kept hg (by omega))
  have Rz7 := Lib.hid (Rz6.out.kept hg (by omega))
  have Ru7 := Lib.hid (Ru6.out.kept hg (by omega))
  have Rv7 := Lib.hid (Rv6.out.kept hg (by omega))
  have Rt7 := Lib.hid (Rt6.out.kept hg (by omega))
  clear Rx6
  clear Ry6
  clear Rz6
  clear Ru6
  clear Rv6
  clear Rt6
  have hb7 := below_grown hb6 hg hb6.size Sx
  clear r hg
  go_wp2_with fail
  refine (rPut2 _ _ _ _ _ _ _ Ru7.out (by omega) h0 h1).mono ?_
  rintro e w8 ⟨rfl, r, hg⟩
  have Ru8 := Lib.hid r
  have Rx8 := Lib.hid (Rx7.out.kept hg (by omega))
  have Ry8 := Lib.hid (Ry7.out.kept hg (by omega))
  have Rz8 := Lib.hid (Rz7.out.kept hg (by omega))
  have Rv8 := Lib.hid (Rv7.out.kept hg (by omega))
  have Rt8 := Lib.hid (Rt7.out.kept hg (by omega))
  clear Rx7
  clear Ry7
  clear Rz7
  clear Ru7
  clear Rv7
  clear Rt7
  have hb8 := below_grown hb7 hg hb7.size Su
  clear r hg
  go_wp2_with fail
  refine (Put32_any _ _ _ _ _ _ _ Ry8.out (by omega) (by omega)).mono ?_
  rintro e w9 ⟨rfl, r, hg⟩
  have Ry9 := Lib.hid r
  have Rx9 := Lib.hid (Rx8.out.kept hg (by omega))
  have Rz9 := Lib.hid (Rz8.out.kept hg (by omega))
  have Ru9 := Lib.hid (Ru8.out.kept hg (by omega))
  have Rv9 := Lib.hid (Rv8.out.kept hg (by omega))
  have Rt9 := Lib.hid (Rt8.out.kept hg (by omega))
  clear Rx8
  clear Ry8
  clear Rz8
  clear Ru8
  clear Rv8
  clear Rt8
  have hb9 := below_grown hb8 hg hb8.size Sy
  clear r hg
  go_wp2_with fail
  refine (rPut4 _ _ _ _ _ _ _ Rv9.out (by omega) h0 h1).mono ?_
  rintro e w10 ⟨rfl, r, hg⟩
  have Rv10 := Lib.hid r
  have Rx10 := Lib.hid (Rx9.out.kept hg (by omega))
  have Ry10 := Lib.hid (Ry9.out.kept hg (by omega))
  have Rz10 := Lib.hid (Rz9.out.kept hg (by omega))
  have Ru10 := Lib.hid (Ru9.out.kept hg (by omega))
  have Rt10 := Lib.hid (Rt9.out.kept hg (by omega))
  clear Rx9
  clear Ry9
  clear Rz9
  clear Ru9
  clear Rv9
  clear Rt9
  have hb10 := below_grown hb9 hg hb9.size Sv
  clear r hg
  go_wp2_with fail
  refine (Put64_any _ _ _ _ _ _ _ Rz10.out (by omega) (by omega)).mono ?_
  rintro e w11 ⟨rfl, r, hg⟩
  have Rz11 := Lib.hid r
  have Rx11 := Lib.hid (Rx10.out.kept hg (by omega))
  have Ry11 := Lib.hid (Ry10.out.kept hg (by omega))
  have Ru11 := Lib.hid (Ru10.out.kept hg (by omega))
  have Rv11 := Lib.hid (Rv10.out.kept hg (by omega))
  have Rt11 := Lib.hid (Rt10.out.kept hg (by omega))
  clear Rx10
  clear Ry10
  clear Rz10
  clear Ru10
  clear Rv10
  clear Rt10
  have hb11 := below_grown hb10 hg hb10.size Sz
  clear r hg
  go_wp2_with fail
  refine (rPut8 _ _ _ _ _ _ _ Rt11.out (by omega) h0 h1).mono ?_
  rintro e w12 ⟨rfl, r, hg⟩
  have Rt12 := Lib.hid r
  have Rx12 := Lib.hid (Rx11.out.kept hg (by omega))
  have Ry12 := Lib.hid (Ry11.out.kept hg (by omega))
  have Rz12 := Lib.hid (Rz11.out.kept hg (by omega))
  have Ru12 := Lib.hid (Ru11.out.kept hg (by omega))
  have Rv12 := Lib.hid (Rv11.out.kept hg (by omega))
  clear Rx11
  clear Ry11
  clear Rz11
  clear Ru11
  clear Rv11
  clear Rt11
  have hb12 := below_grown hb11 hg hb11.size St
  clear r hg
  go_wp2_with fail
  refine (bytes_eq _ _ _ _ _ _ _ _ _ Rx12.out.reads Ru12.out.reads (by omega) (by omega) true (eqB_yes (putAt_wrap2 bs a1 m))).mono ?_
  rintro e w13 ⟨rfl, hs⟩
  have Rx13 := Lib.hid (hs.row Rx12.out)
  have Ry13 := Lib.hid (hs.row Ry12.out)
  have Rz13 := Lib.hid (hs.row Rz12.out)
  have Ru13 := Lib.hid (hs.row Ru12.out)
  have Rv13 := Lib.hid (hs.row Rv12.out)
  have Rt13 := Lib.hid (hs.row Rt12.out)
  clear Rx12
  clear Ry12
  clear Rz12
  clear Ru12
  clear Rv12
  clear Rt12
  have hb13 := hs.below hb12
  clear hs
  go_wp2_with fail
  refine (bytes_eq _ _ _ _ _ _ _ _ _ Ry13.out.reads Rv13.out.reads (by omega) (by omega) true (eqB_yes (putAt_mod4 bs a1 m))).mono ?_
  rintro e w14 ⟨rfl, hs⟩
  have Rx14 := Lib.hid (hs.row Rx13.out)
  have Ry14 := Lib.hid (hs.row Ry13.out)
  have Rz14 := Lib.hid (hs.row Rz13.out)
  have Ru14 := Lib.hid (hs.row Ru13.out)
  have Rv14 := Lib.hid (hs.row Rv13.out)
  have Rt14 := Lib.hid (hs.row Rt13.out)
  clear Rx13
  clear Ry13
  clear Rz13
  clear Ru13
  clear Rv13
  clear Rt13
  have hb14 := hs.below hb13
  clear hs
  go_wp2_with fail
  refine (bytes_eq _ _ _ _ _ _ _ _ _ Rz14.out.reads Rt14.out.reads (by omega) (by omega) true (eqB_yes rfl)).mono ?_
  rintro e w15 ⟨rfl, hs⟩
  have Rx15 := Lib.hid (hs.row Rx14.out)
  have Ry15 := Lib.hid (hs.row Ry14.out)
  have Rz15 := Lib.hid (hs.row Rz14.out)
  have Ru15 := Lib.hid (hs.row Ru14.out)
  have Rv15 := Lib.hid (hs.row Rv14.out)
  have Rt15 := Lib.hid (hs.row Rt14.out)
  clear Rx14
  clear Ry14
  clear Rz14
  clear Ru14
  clear Rv14
  clear Rt14
  have hb15 := hs.below hb14
  clear hs
  clear Rx15
  clear Ry15
  clear Rz15
  clear Ru15
  clear Rv15
  clear Rt15
  go_wp2_with fail
  refine (own_row _ _ _ bs _ (Rd.out.below hb15) (by omega) nl).mono ?_
  rintro e w16 ⟨gk, ck, rfl, sk, r, hb⟩
  have hb16 := hb15.trans (hb.mono hb15.size)
  have Rk := Lib.hid r
  clear r
  have rd0 := Lib.hid (Rd.out.below hb16)
  obtain ⟨e2, he2⟩ : ∃ x, getAt bs a1 2 = x := ⟨_, rfl⟩
  obtain ⟨e4, he4⟩ : ∃ x, getAt bs a1 4 = x := ⟨_, rfl⟩
  have b2 := getAt_bound bs Ib.out a1 2
  have b4 := getAt_bound bs Ib.out a1 4
  rw [he2] at b2
  rw [he4] at b4
  have He2 := Lib.hid he2
  have He4 := Lib.hid he4
  clear he2 he4
  have b20 := b2.1
  have b21 : e2 < 65536 := b2.2
  have b40 := b4.1
  have b41 : e4 < 4294967296 := b4.2
  clear b2 b4
  go_wp2_with fail
  refine (Get16_any _ _ _ _ _ _ Rk.out.reads Ib.out (by omega)).mono ?_
  rintro e _ ⟨rfl, rfl⟩
  rw [He2.out]
  go_wp2_with fail
  refine (rGet2 _ _ _ _ _ _ rd0.out Ib.out (by omega)).mono ?_
  rintro e _ ⟨rfl, rfl⟩
  rw [He2.out]
  go_wp2_with fail
  refine (Get32_any _ _ _ _ _ _ Rk.out.reads Ib.out (by omega)).mono ?_
  rintro e _ ⟨rfl, rfl⟩
  rw [He4.out]
  go_wp2_with fail
  refine (rGet4 _ _ _ _ _ _ rd0.out Ib.out (by omega)).mono ?_
  rintro e _ ⟨rfl, rfl⟩
  rw [He4.out]
  go_wp2_with fail
  refine (Get64_any _ _ _ _ _ _ Rk.out.reads Ib.out (by omega)).mono ?_
  rintro e _ ⟨rfl, rfl⟩
  go_wp2_with fail
  refine (rGet8 _ _ _ _ _ _ rd0.out Ib.out (by omega)).mono ?_
  rintro e _ ⟨rfl, rfl⟩
  go_wp2_with fail
  refine (bytes_eq _ _ _ _ _ _ _ _ _ Rk.out.reads rd0.out (by omega) (by omega) true (eqB_yes rfl)).mono ?_
  rintro e w17 ⟨rfl, hs⟩
  have hb17 := hs.below hb16
  clear hs
  go_wp2_with fail
  refine (awake_any _).mono ?_
  rintro e w18 ⟨rfl, hb⟩
  go_wp2_with fail
  go_ret
  exact ⟨rfl, hb17.trans (hb.mono hb17.size)⟩
set_option maxRecDepth 100000 in
set_option maxHeartbeats 1000000 in
theorem walk (A : Option Addr) (n c : Nat) (bs : List Int) (a1 : Int) (w1 : (Lit.int .i64 a1).wf = true) (a2 : Int) (w2 : (Lit.int .u64 a2).wf = true) (w : World) (rd : RdB w A n bs) (ib : isBytes bs) (mx : n ≤ maxLen) (nl : A = none → c = 0) (bl : ∀ ad, A = some ad → 0 < n → ad.block < w.heap.size) :
    Calls Try.prog 4 #[.slice A n c, .int .i64 a1, .int .u64 a2] w fun e w' => e = .returned (.bool true) ∧ Below w.heap.size w w' := by
  unfold maxLen at mx
  clear bl w1
  by_cases c1 : 5000 < n
  · clear rd
    go_enter Try.func4, Try.ntmps4
    go_wp2_with (go_at_call 11; refine (awake_any _).mono ?_; rintro e w1 ⟨rfl, hb⟩)
    go_ret
    exact ⟨rfl, hb⟩
  · obtain ⟨h0, h1⟩ := bnd64 w2
    exact walk_in A n c bs a1 a2 w rd ib (by omega) nl h0 h1


set_option maxRecDepth 100000 in
theorem lifted (os : Os) (started : os.Started) (H : Type) (enc : TypeId × Value → H) :
    ReturnsInHanded {} Try.checked os 4 .any (Rows.bitsTellsSpec.pre6 enc Try.prog Try.f4 Rows.bitsTellsRow.domain false) (Rows.bitsTellsSpec.post enc Try.prog Try.f4 false true false false) := by
  refine returnsInHanded_of_change_sized (C := Try.checked) own started (by kernel_rfl) Try.func4
    (ChangeSpec.witness6 (enc := enc) (C := Try.checked) false ⟨#[], #[.slice none 0 0, .int .i64 0, .int .u64 0], []⟩ 8 (by kernel_rfl) (by kernel_rfl) (by kernel_rfl) (by kernel_rfl)) ?_
  intro W base args ds gs before hval0 hW _ hsz _
  have hval : ∀ (j : Nat) t v, Try.f4.params[j]? = some t → args[j]? = some v → Value.okWide Try.prog W .any base t v := hval0
  have hW' := hW
  obtain ⟨p, q, hA0, hV, hbef, _, _⟩ := hW
  have hA : DataW.TrodAll enc Try.prog W 0 (fun _ => true) true Try.f4.params.toList args.toList ds p := hA0
  rw [Try.params4] at hA hval
  obtain ⟨v0, vs0, d0, ds0, p0, q0, hargs, rfl, rfl, h0, r0⟩ := trodAll_cons hA
  obtain ⟨v1, vs1, d1, ds1, p1, q1, rfl, rfl, rfl, h1, r1⟩ := trodAll_cons r0
  obtain ⟨v2, vs2, d2, ds2, p2, q2, rfl, rfl, rfl, h2, r2⟩ := trodAll_cons r1
  obtain ⟨rfl, rfl, rfl⟩ := trodAll_nil r2
  obtain rfl : args = #[v0, v1, v2] := by cases args; simp_all
  obtain ⟨rfl, rfl⟩ := trodVars_none hV
  obtain ⟨A0, n0, c0, bs0, rfl, rd0, ib0, mx0, nl0, bl0⟩ := open_u8 Try.underlying24 Try.underlying5 cells5 (hval 0 24 v0 rfl rfl) h0
  obtain ⟨a1, rfl, _, _, w1⟩ := open_int Try.underlying3 (hval 1 3 v1 rfl rfl) h1
  obtain ⟨a2, rfl, _, _, w2⟩ := open_int Try.underlying25 (hval 2 25 v2 rfl rfl) h2
  refine (walk A0 n0 c0 bs0 a1 w1 a2 w2 W rd0 ib0 mx0 nl0 bl0).mono fun e W' ⟨he, hb⟩ => ?_
  subst he
  exact ⟨_, rfl, law_post laidOut (of_decide_eq_true (by kernel_rfl)) rfl Try.underlying4 rfl rfl hW' hb⟩

theorem over : Rows.bitsTellsRow.holds Try.pinned (OpenSpec.ofChange Rows.bitsTellsSpec) :=
  OpenClaim.holds_of_wide 4 Try.f4 rfl rfl rfl rfl rfl rfl rfl ⟨rfl, rfl, rfl, rfl, rfl⟩ rfl rfl rfl rfl rfl (by kernel_rfl) Try.func4 (by kernel_rfl)
    (of_decide_eq_true (by kernel_rfl)) (by unfold Func.isWrapper; first | (rw [if_pos (by decide +kernel)]; kernel_rfl) | (rw [if_neg (by decide +kernel)]; exact ⟨rfl, rfl⟩))
    (fun os started H enc _ => lifted os started H enc)

end Go.Proofs.Ytlkmaompkkdacaa.bitsTells
namespace Go.Proofs.Ytlkmaompkkdacaa
theorem bitsTells_holds : Rows.BitsTellsSaid := bitsTells.over
end Go.Proofs.Ytlkmaompkkdacaa
