/- Who of the document's writers is busy; two objects that tell alike. -/
import Derived.Test.YtmkgipbepipjkaaDoorS
namespace Go.Proofs.YtmkgipbepipjkaaDoor
open Go.ChangeShapes Go.WideShapes Go.ChangeAt Go.RowKit
set_option linter.unusedVariables false
set_option linter.unusedSimpArgs false
set_option maxRecDepth 100000 in
set_option maxHeartbeats 4000000 in
theorem rbusy_any (B p : Nat) (v : Value) (L : List Wr) (w : World) (h : RfAt w B p v L) (hn : L.length ≤ 1000000) : Calls Tryd.prog 38 #[.pointer (some ⟨p, 0, none⟩)] w (BusyEnd L w) := by
  obtain ⟨i0, hi, hz0, hz1, hz2⟩ := info_parts i3info
  have H := Lib.hid h
  clear h
  go_enter Tryd.func38, Tryd.ntmps38
  go_wp2
  go_loopw [3, 4] (fun bs i wr => ∃ k : Nat, k ≤ L.length ∧ i = .int .i64 k ∧ OwI wr w.heap.size bs (busyOf (seqE L 0 k)) ∧ RfAt wr B p v L ∧ Below w.heap.size w wr) (fun _ i _ => L.length - (intOf i).toNat)
  case atStart => exact ⟨0, Nat.zero_le _, rfl, Ow.none _ _ _, H.out, Below.refl _ _⟩
  case round =>
    obtain ⟨k, hk, rfl, hbs, hr, hb⟩ := hrel
    have HS := Lib.hid hbs
    have HR := Lib.hid hr
    have HB := Lib.hid hb
    obtain ⟨A, c, rfl, hc, k0, _⟩ := hr.cells
    obtain ⟨A', c', e, _, hat⟩ := hr.own.sl
    cases e
    obtain ⟨Ab, cb, rfl, _⟩ := Ow.sl hbs
    clear hbs hr hb H
    have hbl := busyOf_len (seqE L 0 k)
    rw [seqE_len] at hbl
    by_cases hlt : k < L.length
    · obtain ⟨g, rfl, _, _, _, x0, x1, _⟩ := hat k hlt
      have d2 : decide ((k : Int) < (L.length : Int)) = true := decide_eq_true (by omega)
      have i1 := rindex g L.length c k (k : Int) rfl hlt
      have wk : IntKind.i64.wrap ((k : Int) + 1) = (k : Int) + 1 := IntWalk.i64_in _ (by omega)
      obtain ⟨⟨s, t⟩, hst⟩ : ∃ x, L.getD k w0r = x := ⟨_, rfl⟩
      obtain ⟨bz, hbz⟩ : ∃ b, busyB (s, t) = b := ⟨_, rfl⟩
      have hnb := busyOf_next L k (b := bz) (by rw [hst]; exact hbz)
      rw [hst] at x0 x1
      simp only at x0 x1
      clear hst hat
      by_cases hs1 : s = 1
      · subst hs1
        obtain rfl : bz = true := by rw [← hbz]; rfl
        have HNB : Hid (busyOf (seqE L 0 (k + 1)) = busyOf (seqE L 0 k) ++ [(k : Int) + 1]) := hnb
        clear hbz hnb
        have hb6 : Below wr.heap.size wr (wr.alloc (.cells #[.int .i64 ((k : Int) + 1)] 3)) := (Below.refl _ _).alloc (Nat.le_refl _) _
        have HR6 := Lib.hid (HR.out.later hb6)
        have HB6 := Lib.hid (stepB HB.out hb6)
        have HS6 := Lib.hid (HS.out.later hb6)
        have HX6 := Lib.hid (Blk.new wr #[.int .i64 ((k : Int) + 1)] 3)
        have hcell : ∀ j u, [Value.int .i64 ((k : Int) + 1)][j]? = some u → (wr.alloc (.cells #[.int .i64 ((k : Int) + 1)] 3)).cell? ((⟨wr.heap.size, 0, none⟩ : Addr).add j) = some u := fun j u hu => by
          rw [add_plain, Nat.zero_add, HX6.out.cell]; simpa using hu
        have HCE := Lib.hid hcell
        clear hb6 hcell
        go_wp2_with (at_builtin; refine wpList_append_own _ rfl (.tmp 34) (.tmp 37) 29 rfl w.heap.size 3 i0 _ 1 8 Tryd.underlying29 hi hz0 hz1 hz2 rfl (by decide) _ _ _ rfl HS6.out ⟨wr.heap.size, 0, none⟩ 1 1 [.int .i64 ((k : Int) + 1)] rfl rfl HCE.out (by simp [Value.oneCell']) (by unfold maxLen; omega) (by omega) HB6.out.size ?_; intro v7 w7 ho7 hg7)
        intro hnil
        clear hnil
        have ho8 : OwI w7 w.heap.size v7 (busyOf (seqE L 0 (k + 1))) := by
          rw [HNB.out]
          show World.ownsRow _ _ _ _ _ _ _
          rw [List.length_append, List.map_append]
          exact ho7
        have hg8 : (wr.alloc (.cells #[.int .i64 ((k : Int) + 1)] 3)).grownBy w7 (Value.slice Ab (busyOf (seqE L 0 k)).length cb).ownBlock := hg7
        have HR7 := Lib.hid (HR6.out.grown hg8 (fun j hj => by obtain ⟨cur, hc⟩ := Ow.tag HS6.out j hj; exact ⟨cur, 3, hc, by decide, by decide⟩))
        have HB7 : Hid (Below w.heap.size w w7) := HB6.out.grown hg8 HB6.out.size (fun j hj => (Ow.lt HS6.out j hj).1)
        obtain ⟨A8, c8, rfl, _⟩ := Ow.sl ho8
        have HS7 := Lib.hid ho8
        clear ho7 hg7 ho8 hg8 HR6 HB6 HS6 HX6 HCE HR HB HS HNB x0 x1
        go_wp2
        go_roundw
        case rel => exact ⟨k + 1, by omega, by go_num, HS7.out, HR7.out, HB7.out⟩
        case measure => simp [intOf]; omega
      · have e1 : (s == 1) = false := ieq_no hs1
        by_cases hs2 : s = 2
        · subst hs2
          obtain rfl : bz = true := by rw [← hbz]; rfl
          have HNB : Hid (busyOf (seqE L 0 (k + 1)) = busyOf (seqE L 0 k) ++ [(k : Int) + 1]) := hnb
          clear hbz hnb hs1
          have hb6 : Below wr.heap.size wr (wr.alloc (.cells #[.int .i64 ((k : Int) + 1)] 3)) := (Below.refl _ _).alloc (Nat.le_refl _) _
          have HR6 := Lib.hid (HR.out.later hb6)
          have HB6 := Lib.hid (stepB HB.out hb6)
          have HS6 := Lib.hid (HS.out.later hb6)
          have HX6 := Lib.hid (Blk.new wr #[.int .i64 ((k : Int) + 1)] 3)
          have hcell : ∀ j u, [Value.int .i64 ((k : Int) + 1)][j]? = some u → (wr.alloc (.cells #[.int .i64 ((k : Int) + 1)] 3)).cell? ((⟨wr.heap.size, 0, none⟩ : Addr).add j) = some u := fun j u hu => by
            rw [add_plain, Nat.zero_add, HX6.out.cell]; simpa using hu
          have HCE := Lib.hid hcell
          clear hb6 hcell
          go_wp2_with (at_builtin; refine wpList_append_own _ rfl (.tmp 34) (.tmp 37) 29 rfl w.heap.size 3 i0 _ 1 8 Tryd.underlying29 hi hz0 hz1 hz2 rfl (by decide) _ _ _ rfl HS6.out ⟨wr.heap.size, 0, none⟩ 1 1 [.int .i64 ((k : Int) + 1)] rfl rfl HCE.out (by simp [Value.oneCell']) (by unfold maxLen; omega) (by omega) HB6.out.size ?_; intro v7 w7 ho7 hg7)
          intro hnil
          clear hnil
          have ho8 : OwI w7 w.heap.size v7 (busyOf (seqE L 0 (k + 1))) := by
            rw [HNB.out]
            show World.ownsRow _ _ _ _ _ _ _
            rw [List.length_append, List.map_append]
            exact ho7
          have hg8 : (wr.alloc (.cells #[.int .i64 ((k : Int) + 1)] 3)).grownBy w7 (Value.slice Ab (busyOf (seqE L 0 k)).length cb).ownBlock := hg7
          have HR7 := Lib.hid (HR6.out.grown hg8 (fun j hj => by obtain ⟨cur, hc⟩ := Ow.tag HS6.out j hj; exact ⟨cur, 3, hc, by decide, by decide⟩))
          have HB7 : Hid (Below w.heap.size w w7) := HB6.out.grown hg8 HB6.out.size (fun j hj => (Ow.lt HS6.out j hj).1)
          obtain ⟨A8, c8, rfl, _⟩ := Ow.sl ho8
          have HS7 := Lib.hid ho8
          clear ho7 hg7 ho8 hg8 HR6 HB6 HS6 HX6 HCE HR HB HS HNB x0 x1
          go_wp2
          go_roundw
          case rel => exact ⟨k + 1, by omega, by go_num, HS7.out, HR7.out, HB7.out⟩
          case measure => simp [intOf]; omega
        · have e2 : (s == 2) = false := ieq_no hs2
          obtain rfl : bz = false := by rw [← hbz]; unfold busyB; rw [decide_eq_false hs1, decide_eq_false hs2]; rfl
          have HNB : Hid (busyOf (seqE L 0 (k + 1)) = busyOf (seqE L 0 k)) := hnb
          clear hbz hnb hs1 hs2
          go_wp2
          go_roundw
          case rel => exact ⟨k + 1, by omega, by go_num, by rw [HNB.out]; exact HS.out, HR.out, HB.out⟩
          case measure => simp [intOf]; omega
    · obtain rfl : k = L.length := by omega
      have d2 : decide ((L.length : Int) < (L.length : Int)) = false := decide_eq_false (by omega)
      go_wp2
      go_ret
      exact ⟨_, rfl, HS.out, HB.out⟩
set_option maxRecDepth 100000 in
set_option maxHeartbeats 4000000 in
theorem like_any (B p B2 q : Nat) (v u : Value) (L : List Wr) (la : Int) (en : Nat) (w : World) (h : WrAt w B p v L la en) (hr : RfAt w B2 q u L) (hn : L.length ≤ 1000000) (hla : lastL L = la) : Calls Tryd.prog 28 #[.pointer (some ⟨p, 0, none⟩), .pointer (some ⟨q, 0, none⟩)] w (fun x w' => x = .returned (.bool true) ∧ Below w.heap.size w w') := by
  have O0 := Lib.hid h
  have R0 := Lib.hid hr
  have HB0 := Lib.hid (Below.refl w.heap.size w)
  have HLA := Lib.hid hla
  have hbl := busyOf_len (seqE L 0 L.length)
  rw [seqE_len] at hbl
  change (busyL L).length ≤ L.length at hbl
  clear h hr hla
  go_enter Tryd.func28, Tryd.ntmps28
  go_wp2_with fail
  refine (high_e O0.out hn).mono ?_
  rintro x _ ⟨rfl, rfl⟩
  go_wp2_with fail
  refine (rhigh_any B2 q u L _ R0.out hn).mono ?_
  rintro x _ ⟨rfl, rfl⟩
  go_wp2_with fail
  refine (active_any B p v L la en _ O0.out hn).mono ?_
  rintro x w1 ⟨rfl, hb⟩
  have O1 := Lib.hid (O0.out.later hb)
  have R1 := Lib.hid (R0.out.later hb)
  have HB1 := Lib.hid (stepB HB0.out hb)
  clear hb HB0 O0 R0
  go_wp2_with fail
  refine (ractive_any B2 q u L _ R1.out hn).mono ?_
  rintro x _ ⟨rfl, rfl⟩
  go_wp2_with fail
  refine (last_e O1.out).mono ?_
  rintro x _ ⟨rfl, rfl⟩
  go_wp2_with fail
  refine (rlast_any B2 q u L _ R1.out hn).mono ?_
  rintro x _ ⟨rfl, rfl⟩
  rw [HLA.out]
  go_wp2_with fail
  refine (busy_any B p v L la en _ O1.out hn).mono ?_
  rintro x w2 ⟨vx, rfl, hox, hb⟩
  have HX2 := Lib.hid hox
  obtain ⟨Ax, cx, rfl, _⟩ := Ow.sl hox
  clear hox
  have O2 := Lib.hid (O1.out.later hb)
  have R2 := Lib.hid (R1.out.later hb)
  have HB2 := Lib.hid (stepB HB1.out hb)
  clear hb HB1 O1 R1
  go_wp2_with fail
  refine (rbusy_any B2 q u L _ R2.out hn).mono ?_
  rintro x w3 ⟨vy, rfl, hoy, hb⟩
  obtain ⟨Ay, cy, rfl, hsy⟩ := Ow.sl hoy
  obtain ⟨Ax', cx', ex, hsx⟩ := Ow.sl (HX2.out.later hb)
  cases ex
  clear hoy HX2
  have O3 := Lib.hid (O2.out.later hb)
  have R3 := Lib.hid (R2.out.later hb)
  have HB3 := Lib.hid (stepB HB2.out hb)
  clear hb HB2 O2 R2
  go_wp2_with fail
  refine (ints_any Ax Ay (busyL L).length (busyL L).length cx cy (busyL L) (busyL L) w3 hsx.rd hsy.rd (by omega) (by omega)).mono ?_
  rintro x w4 ⟨rfl, d, hw4⟩
  rw [show decide (busyL L = busyL L) = true from decide_eq_true rfl]
  have hb : Below w3.heap.size w3 w4 := by rw [hw4]; exact below_drewN (Below.refl _ _) d
  clear hw4 hsx hsy
  have O4 := Lib.hid (O3.out.later hb)
  have R4 := Lib.hid (R3.out.later hb)
  have HB4 := Lib.hid (stepB HB3.out hb)
  clear hb HB3 O3 R3
  go_wp2
  go_loopw [5] (fun i wr => ∃ k : Nat, k ≤ L.length + 3 ∧ i = .int .i64 ((k : Int) - 1) ∧ WrAt wr B p v L la en ∧ RfAt wr B2 q u L ∧ Below w.heap.size w wr) (fun i _ => L.length + 3 - (intOf i + 1).toNat)
  case atStart => exact ⟨0, Nat.zero_le _, rfl, O4.out, R4.out, HB4.out⟩
  case round =>
    obtain ⟨k, hk, rfl, ho, hr, hb⟩ := hrel
    have O5 := Lib.hid ho
    have R5 := Lib.hid hr
    have HB5 := Lib.hid hb
    clear ho hr hb O4 R4 HB4
    by_cases hlt : k < L.length + 3
    · have d2 : decide ((k : Int) - 1 ≤ (L.length : Int) + 1) = true := decide_eq_true (by omega)
      have wk : IntKind.i64.wrap ((k : Int) - 1 + 1) = ((k + 1 : Nat) : Int) - 1 := (IntWalk.i64_in _ (by omega)).trans (by omega)
      have wk2 : (k : Int) - 1 + 1 = (k : Int) := by omega
      obtain ⟨⟨a, t⟩, hx⟩ : ∃ x, ofL L ((k : Int) - 1) = x := ⟨_, rfl⟩
      have HX := Lib.hid hx
      clear hx
      go_wp2_with fail
      refine (rhigh_any B2 q u L _ R5.out hn).mono ?_
      rintro x _ ⟨rfl, rfl⟩
      go_wp2_with fail
      refine (of_any B p v L la en _ _ O5.out hn).mono ?_
      rintro x w6 ⟨rfl, hb⟩
      rw [HX.out]
      have O6 := Lib.hid (O5.out.later hb)
      have R6 := Lib.hid (R5.out.later hb)
      have HB6 := Lib.hid (stepB HB5.out hb)
      clear hb HB5 O5 R5
      go_wp2_with fail
      refine (rof_any B2 q u L _ _ R6.out hn).mono ?_
      rintro x w7 ⟨rfl, hb⟩
      rw [HX.out]
      have O7 := Lib.hid (O6.out.later hb)
      have R7 := Lib.hid (R6.out.later hb)
      have HB7 := Lib.hid (stepB HB6.out hb)
      clear hb HB6 O6 R6
      go_wp2
      go_roundw
      case rel => exact ⟨k + 1, by omega, by first | rfl | (go_num) | simp, O7.out, R7.out, HB7.out⟩
      case measure => simp [intOf]; omega
    · obtain rfl : k = L.length + 3 := by omega
      have d2 : decide (((L.length + 3 : Nat) : Int) - 1 ≤ (L.length : Int) + 1) = false := decide_eq_false (by omega)
      go_wp2_with fail
      refine (rhigh_any B2 q u L _ R5.out hn).mono ?_
      rintro x _ ⟨rfl, rfl⟩
      go_wp2
      go_ret
      exact ⟨rfl, HB5.out⟩
end Go.Proofs.YtmkgipbepipjkaaDoor
