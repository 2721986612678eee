/-
Of two numbers of one width the bytes of the lesser one are less, byte by byte; no condition.
-/
import Derived.Test.YtlkmaompkkdacaaN0
import Derived.RegionTactic
import Derived.Deep.RegionHeld3
import Derived.Laws.IdiomStrings
import Derived.WalkLawsBesides
namespace Go.Proofs.Ytlkmaompkkdacaa.bitsRow
open Go.ChangeShapes Go.WideShapes Go.ChangeAt Go.RowKit
set_option linter.unusedVariables false

theorem own : ownKnob Try.prog.godebug = none := by kernel_rfl
theorem laidOut : laidOutB Try.prog = true := by kernel_rfl

def z14 : List Int := [0, 0, 0, 0, 0, 0, 0, 0, 0, 0, 0, 0, 0, 0]
theorem rowz (w : World) : Row (w.alloc (.cells #[.int .u8 0, .int .u8 0, .int .u8 0, .int .u8 0, .int .u8 0, .int .u8 0, .int .u8 0, .int .u8 0, .int .u8 0, .int .u8 0, .int .u8 0, .int .u8 0, .int .u8 0, .int .u8 0] 5)) w.heap.size 14 14 z14 := World.ownsRow_lit w #[.int .u8 0, .int .u8 0, .int .u8 0, .int .u8 0, .int .u8 0, .int .u8 0, .int .u8 0, .int .u8 0, .int .u8 0, .int .u8 0, .int .u8 0, .int .u8 0, .int .u8 0, .int .u8 0] 14 (Nat.zero_le _) (by unfold maxLen; omega) rfl
theorem conv_any (w : World) (g off len cap : Nat) (xs : List Int) (r : Row w g 14 14 xs) (ib : isBytes xs) (h : off + len ≤ 14) :
    (convert 24 9 (.slice (some ⟨g, off, none⟩) len cap)).run Try.prog w = .ok (.string ⟨(toU8 ((xs.drop off).take len)).toArray⟩) w := by
  have hl : (toU8 ((xs.drop off).take len)).length = len := by rw [toU8_len, List.length_take, List.length_drop, r.len]; omega
  have := run_convert_bytes_back (P := Try.prog) w 24 9 5 ⟨g, off, none⟩ cap (toU8 ((xs.drop off).take len)) Try.underlying24 Try.underlying5 Try.underlying9 (fun j hj => by
    rw [hl] at hj
    rw [add_plain, r.cellAt (off + j) (by omega), u8s_get xs (off + j) (by rw [r.len]; omega)]
    have hb := ib.getD (off + j)
    simp only [toU8, List.getElem_map, List.getElem_take, List.getElem_drop]
    have e : xs.getD (off + j) 0 = xs[off + j]'(by rw [r.len]; omega) := by
      rw [List.getD_eq_getElem?_getD, List.getElem?_eq_getElem (by rw [r.len]; omega), Option.getD_some]
    rw [← e]
    congr 2
    rw [UInt8.toNat_ofNat']; omega)
  rwa [hl] at this
/-- what the six writings leave -/
def xs14 (n : Int) : List Int := putAt (putAt (putAt z14 0 8 n) 8 4 (n % 4294967296)) 12 2 (IntKind.u16.wrap n)
theorem xs14_eq (n : Int) : xs14 n = putI (putI (putI z14 0 8 n) 8 4 (n % 4294967296)) 12 2 (n % 65536) := by
  unfold xs14
  have e1 : putAt z14 0 8 n = putI z14 0 8 n := by unfold putAt; rw [if_pos (by decide)]; rfl
  have l1 : (putI z14 0 8 n).length = 14 := by rw [putI_len]; rfl
  have e2 : putAt (putI z14 0 8 n) 8 4 (n % 4294967296) = putI (putI z14 0 8 n) 8 4 (n % 4294967296) := by unfold putAt; rw [l1, if_pos (by decide)]; rfl
  have l2 : (putI (putI z14 0 8 n) 8 4 (n % 4294967296)).length = 14 := by rw [putI_len]; exact l1
  rw [e1, e2]
  unfold putAt
  rw [l2, if_pos (by decide), IntKind.wrap_u16]; rfl
theorem xs14_bytes (n : Int) : isBytes (xs14 n) := ((isBytes.putAt (isBytes_of (by decide)) _ _ _).putAt _ _ _).putAt _ _ _
theorem xs14_0 (n : Int) : ((xs14 n).drop 0).take 8 = dig 8 n := by
  rw [xs14_eq, seg_other 12 2 0 8 _ _ (.inl (by omega)) (by simp [putI_len, z14]), seg_other 8 4 0 8 _ _ (.inl (by omega)) (by simp [putI_len, z14])]
  exact seg_putI 0 8 z14 n (by decide)
theorem xs14_8 (n : Int) : ((xs14 n).drop 8).take 4 = dig 4 (n % 4294967296) := by
  rw [xs14_eq, seg_other 12 2 8 4 _ _ (.inl (by omega)) (by simp [putI_len, z14])]
  exact seg_putI 8 4 _ _ (by simp [putI_len, z14])
theorem xs14_12 (n : Int) : ((xs14 n).drop 12).take 2 = dig 2 (n % 65536) := by
  rw [xs14_eq]
  exact seg_putI 12 2 _ _ (by simp [putI_len, z14])
theorem wpAny_quiet_from {P : Program} {Q' : Exit → Act → World → Prop} {a : Act} {w : World} {fuel : Nat} {listed : Array Bool} {o : Oper} {l : List Oper} (hs : Region.noSelect (o :: l).toArray = true)
    (hB : Region.lexFrom .any (o :: l).toArray l.length 1 listed = true) (hf : fuel = l.length)
    (h : wpQuiet P (o :: l).toArray (fun w' => ∃ n, w' = w.drewN n) (fun a' => ∀ w', (∃ n, w' = w.drewN n) → Q' .normal a' w') l a) : wpAny P .any (o :: l).toArray Q' fuel listed a w := by
  subst hf
  exact wpAny_of_quiet (C := fun w' => ∃ n, w' = w.drewN n) (Q := fun a' => ∀ w', (∃ n, w' = w.drewN n) → Q' .normal a' w') (fun _ w' hw' h => h w' hw') _ _ _ _ ⟨0, rfl⟩
    (wpAnyQ_lex hs l 1 listed a (fun j => by simp [Nat.add_comm 1 j]) hB h)
theorem pair_any (w : World) (gx gy off len cap k : Nat) (xs ys : List Int) (a b : Int) (rx : Row w gx 14 14 xs) (ry : Row w gy 14 14 ys) (ix : isBytes xs) (iy : isBytes ys) (h : off + len ≤ 14)
    (ex : (xs.drop off).take len = dig k a) (ey : (ys.drop off).take len = dig k b) (a0 : 0 ≤ a) (a1 : a < 256 ^ k) (b0 : 0 ≤ b) (b1 : b < 256 ^ k) :
    ∃ s t : ByteArray, (∀ d, (convert 24 9 (.slice (some ⟨gx, off, none⟩) len cap)).run Try.prog (w.drewN d) = .ok (.string s) (w.drewN d)) ∧ (∀ d, (convert 24 9 (.slice (some ⟨gy, off, none⟩) len cap)).run Try.prog (w.drewN d) = .ok (.string t) (w.drewN d)) ∧ Op.bytesLess s.toList t.toList = decide (a < b) := by
  refine ⟨_, _, fun d => conv_any (w.drewN d) gx off len cap xs rx ix h, fun d => conv_any (w.drewN d) gy off len cap ys ry iy h, ?_⟩
  rw [ByteArray.toList_eq, ByteArray.toList_eq]
  show Op.bytesLess (toU8 _) (toU8 _) = _
  rw [ex, ey]
  exact (dig_less k a b a0 a1 b0 b1).1
theorem pair8 (w : World) (gx gy : Nat) (n m : Int) (rx : Row w gx 14 14 (xs14 n)) (ry : Row w gy 14 14 (xs14 m)) (h0 : 0 ≤ n) (h1 : n ≤ 18446744073709551615) (k0 : 0 ≤ m) (k1 : m ≤ 18446744073709551615) :
    ∃ s t : ByteArray, (∀ d, (convert 24 9 (.slice (some ⟨gx, 0, none⟩) 8 14)).run Try.prog (w.drewN d) = .ok (.string s) (w.drewN d)) ∧ (∀ d, (convert 24 9 (.slice (some ⟨gy, 0, none⟩) 8 14)).run Try.prog (w.drewN d) = .ok (.string t) (w.drewN d)) ∧ Op.bytesLess s.toList t.toList = decide (n < m) :=
  pair_any w gx gy 0 8 14 8 _ _ n m rx ry (xs14_bytes n) (xs14_bytes m) (by omega) (xs14_0 n) (xs14_0 m) h0 (by omega) k0 (by omega)
theorem pair4 (w : World) (gx gy : Nat) (n m : Int) (rx : Row w gx 14 14 (xs14 n)) (ry : Row w gy 14 14 (xs14 m)) :
    ∃ s t : ByteArray, (∀ d, (convert 24 9 (.slice (some ⟨gx, 8, none⟩) 4 6)).run Try.prog (w.drewN d) = .ok (.string s) (w.drewN d)) ∧ (∀ d, (convert 24 9 (.slice (some ⟨gy, 8, none⟩) 4 6)).run Try.prog (w.drewN d) = .ok (.string t) (w.drewN d)) ∧ Op.bytesLess s.toList t.toList = decide (n % 4294967296 < m % 4294967296) :=
  pair_any w gx gy 8 4 6 4 _ _ (n % 4294967296) (m % 4294967296) rx ry (xs14_bytes n) (xs14_bytes m) (by omega) (xs14_8 n) (xs14_8 m) (by omega) (by omega) (by omega) (by omega)
theorem pair2 (w : World) (gx gy : Nat) (n m : Int) (rx : Row w gx 14 14 (xs14 n)) (ry : Row w gy 14 14 (xs14 m)) :
    ∃ s t : ByteArray, (∀ d, (convert 24 9 (.slice (some ⟨gx, 12, none⟩) 2 2)).run Try.prog (w.drewN d) = .ok (.string s) (w.drewN d)) ∧ (∀ d, (convert 24 9 (.slice (some ⟨gy, 12, none⟩) 2 2)).run Try.prog (w.drewN d) = .ok (.string t) (w.drewN d)) ∧ Op.bytesLess s.toList t.toList = decide (IntKind.u16.wrap n < IntKind.u16.wrap m) := by
  rw [IntKind.wrap_u16, IntKind.wrap_u16]
  exact pair_any w gx gy 12 2 2 2 _ _ (n % 65536) (m % 65536) rx ry (xs14_bytes n) (xs14_bytes m) (by omega) (xs14_12 n) (xs14_12 m) (by omega) (by omega) (by omega) (by omega)
set_option maxRecDepth 100000 in
set_option maxHeartbeats 4000000 in
theorem walk_in (n m : Int) (w : World) (h0 : 0 ≤ n) (h1 : n ≤ 18446744073709551615) (k0 : 0 ≤ m) (k1 : m ≤ 18446744073709551615) :
    Calls Try.prog 8 #[.int .u64 n, .int .u64 m] w fun e w' => e = .returned (.bool true) ∧ Below w.heap.size w w' := by
  have hmk : ∀ w : World, (Instr.makeSlice 24 (.int .i64 14) (.int .i64 14)).run Try.prog w = .ok (.slice (some ⟨w.heap.size, 0, none⟩) 14 14) (w.alloc (.cells #[.int .u8 0, .int .u8 0, .int .u8 0, .int .u8 0, .int .u8 0, .int .u8 0, .int .u8 0, .int .u8 0, .int .u8 0, .int .u8 0, .int .u8 0, .int .u8 0, .int .u8 0, .int .u8 0] 5)) := fun _ => by kernel_rfl
  obtain ⟨w2, hw2⟩ : ∃ x, x = ((w.alloc (.cells #[.int .u8 0, .int .u8 0, .int .u8 0, .int .u8 0, .int .u8 0, .int .u8 0, .int .u8 0, .int .u8 0, .int .u8 0, .int .u8 0, .int .u8 0, .int .u8 0, .int .u8 0, .int .u8 0] 5)).alloc (.cells #[.int .u8 0, .int .u8 0, .int .u8 0, .int .u8 0, .int .u8 0, .int .u8 0, .int .u8 0, .int .u8 0, .int .u8 0, .int .u8 0, .int .u8 0, .int .u8 0, .int .u8 0, .int .u8 0] 5)).drew := ⟨_, rfl⟩
  have RA : Hid (Row w2 w.heap.size 14 14 z14) := by
    subst hw2
    exact (rowz w).below (B := w.heap.size + 1) ((Below.refl (w.heap.size + 1) (w.alloc (.cells #[.int .u8 0, .int .u8 0, .int .u8 0, .int .u8 0, .int .u8 0, .int .u8 0, .int .u8 0, .int .u8 0, .int .u8 0, .int .u8 0, .int .u8 0, .int .u8 0, .int .u8 0, .int .u8 0] 5))).alloc (by simp) (.cells #[.int .u8 0, .int .u8 0, .int .u8 0, .int .u8 0, .int .u8 0, .int .u8 0, .int .u8 0, .int .u8 0, .int .u8 0, .int .u8 0, .int .u8 0, .int .u8 0, .int .u8 0, .int .u8 0] 5)).drew (by omega)
  have RB : Hid (Row w2 (w.heap.size + 1) 14 14 z14) := by
    subst hw2
    have h := rowz (w.alloc (.cells #[.int .u8 0, .int .u8 0, .int .u8 0, .int .u8 0, .int .u8 0, .int .u8 0, .int .u8 0, .int .u8 0, .int .u8 0, .int .u8 0, .int .u8 0, .int .u8 0, .int .u8 0, .int .u8 0] 5))
    rw [show (w.alloc (.cells #[.int .u8 0, .int .u8 0, .int .u8 0, .int .u8 0, .int .u8 0, .int .u8 0, .int .u8 0, .int .u8 0, .int .u8 0, .int .u8 0, .int .u8 0, .int .u8 0, .int .u8 0, .int .u8 0] 5)).heap.size = w.heap.size + 1 from by simp] at h
    exact h
  have Hb2 : Hid (Below w.heap.size w w2) := by
    subst hw2
    exact (((Below.refl _ _).alloc (Nat.le_refl _) _).alloc (by simp) _).drew
  have Hw2 := Lib.hid hw2
  clear hw2
  go_enter Try.func8, Try.ntmps8
  go_wp2_with fail
  go_region
  clear hmk
  · rw [← Hw2.out]
    have RX2 : Hid (Row w2 (w.heap.size) 14 14 z14) := RA
    have RY2 : Hid (Row w2 (w.heap.size + 1) 14 14 z14) := RB
    go_wp2_with fail
    refine (Put64_any _ _ _ _ _ _ _ RX2.out (by omega) h0).mono ?_
    rintro e w3 ⟨rfl, r, hg⟩
    have RX3 := Lib.hid r
    have RY3 := Lib.hid (RY2.out.kept hg (by omega))
    have Hb3 := Lib.hid (below_grown Hb2.out hg Hb2.out.size (by omega))
    clear r hg RX2 RY2 Hb2
    go_wp2_with fail
    refine (Put64_any _ _ _ _ _ _ _ RY3.out (by omega) k0).mono ?_
    rintro e w4 ⟨rfl, r, hg⟩
    have RY4 := Lib.hid r
    have RX4 := Lib.hid (RX3.out.kept hg (by omega))
    have Hb4 := Lib.hid (below_grown Hb3.out hg Hb3.out.size (by omega))
    clear r hg RY3 RX3 Hb3
    go_wp2_with fail
    refine (Put32_any _ _ _ _ _ _ _ RX4.out (by omega) (by omega)).mono ?_
    rintro e w5 ⟨rfl, r, hg⟩
    have RX5 := Lib.hid r
    have RY5 := Lib.hid (RY4.out.kept hg (by omega))
    have Hb5 := Lib.hid (below_grown Hb4.out hg Hb4.out.size (by omega))
    clear r hg RX4 RY4 Hb4
    go_wp2_with fail
    refine (Put32_any _ _ _ _ _ _ _ RY5.out (by omega) (by omega)).mono ?_
    rintro e w6 ⟨rfl, r, hg⟩
    have RY6 := Lib.hid r
    have RX6 := Lib.hid (RX5.out.kept hg (by omega))
    have Hb6 := Lib.hid (below_grown Hb5.out hg Hb5.out.size (by omega))
    clear r hg RY5 RX5 Hb5
    go_wp2_with fail
    refine (Put16_any _ _ _ _ _ _ _ RX6.out (by omega) (wrap16_nn n)).mono ?_
    rintro e w7 ⟨rfl, r, hg⟩
    have RX7 := Lib.hid r
    have RY7 := Lib.hid (RY6.out.kept hg (by omega))
    have Hb7 := Lib.hid (below_grown Hb6.out hg Hb6.out.size (by omega))
    clear r hg RX6 RY6 Hb6
    go_wp2_with fail
    refine (Put16_any _ _ _ _ _ _ _ RY7.out (by omega) (wrap16_nn m)).mono ?_
    rintro e w8 ⟨rfl, r, hg⟩
    have RY8 := Lib.hid r
    have RX8 := Lib.hid (RX7.out.kept hg (by omega))
    have Hb8 := Lib.hid (below_grown Hb7.out hg Hb7.out.size (by omega))
    clear r hg RY7 RX7 Hb7
    go_wp2_with fail
    refine wp_region_any (by kernel_rfl) ?_
    refine wpAny_ready (rs := [0]) (by kernel_rfl) (by simp) ?_
    refine AllReady.cons rfl (fun K hK => ?_) AllReady.nil
    go_simp
    go_wp2_with (first | (go_at_call 11; refine (awake_any _).mono ?_; rintro e wA ⟨rfl, hb⟩; have rx := Row.below (by exact RX8.out) hb (by exact RX8.out.lt); have ry := Row.below (by exact RY8.out) hb (by exact RY8.out.lt); obtain ⟨s1, t1, p1, q1, l1⟩ := pair8 wA _ _ n m rx ry h0 h1 k0 k1; obtain ⟨s2, t2, p2, q2, l2⟩ := pair4 wA _ _ n m rx ry; obtain ⟨s3, t3, p3, q3, l3⟩ := pair2 wA _ _ n m rx ry; have a1 := p1 0; have a2 := q1 0; have a3 := p2 0; have a4 := q2 0; have a5 := p3 0; have a6 := q3 0; simp only [World.drewN_zero] at a1 a2 a3 a4 a5 a6; clear rx ry))
    refine wpAny_quiet_from (by kernel_rfl) (by kernel_rfl) rfl ?_
    repeat (first | go_big_quiet_step (fail) | quiet_step (fail))
    refine wpQuiet_nil ?_
    intro _ hw'
    obtain ⟨nq, hw''⟩ := hw'
    subst hw''
    go_wp2_with fail
    go_ret
    refine ⟨rfl, ?_⟩
    exact Below.trans (Below.trans Hb8.out.drew (Below.mono hb Hb8.out.size)) ⟨rfl, rfl, rfl, Nat.le_refl _, fun _ _ => rfl⟩
  · rw [← Hw2.out]
    have RX2 : Hid (Row w2 (w.heap.size + 1) 14 14 z14) := RB
    have RY2 : Hid (Row w2 (w.heap.size) 14 14 z14) := RA
    go_wp2_with fail
    refine (Put64_any _ _ _ _ _ _ _ RX2.out (by omega) h0).mono ?_
    rintro e w3 ⟨rfl, r, hg⟩
    have RX3 := Lib.hid r
    have RY3 := Lib.hid (RY2.out.kept hg (by omega))
    have Hb3 := Lib.hid (below_grown Hb2.out hg Hb2.out.size (by omega))
    clear r hg RX2 RY2 Hb2
    go_wp2_with fail
    refine (Put64_any _ _ _ _ _ _ _ RY3.out (by omega) k0).mono ?_
    rintro e w4 ⟨rfl, r, hg⟩
    have RY4 := Lib.hid r
    have RX4 := Lib.hid (RX3.out.kept hg (by omega))
    have Hb4 := Lib.hid (below_grown Hb3.out hg Hb3.out.size (by omega))
    clear r hg RY3 RX3 Hb3
    go_wp2_with fail
    refine (Put32_any _ _ _ _ _ _ _ RX4.out (by omega) (by omega)).mono ?_
    rintro e w5 ⟨rfl, r, hg⟩
    have RX5 := Lib.hid r
    have RY5 := Lib.hid (RY4.out.kept hg (by omega))
    have Hb5 := Lib.hid (below_grown Hb4.out hg Hb4.out.size (by omega))
    clear r hg RX4 RY4 Hb4
    go_wp2_with fail
    refine (Put32_any _ _ _ _ _ _ _ RY5.out (by omega) (by omega)).mono ?_
    rintro e w6 ⟨rfl, r, hg⟩
    have RY6 := Lib.hid r
    have RX6 := Lib.hid (RX5.out.kept hg (by omega))
    have Hb6 := Lib.hid (below_grown Hb5.out hg Hb5.out.size (by omega))
    clear r hg RY5 RX5 Hb5
    go_wp2_with fail
    refine (Put16_any _ _ _ _ _ _ _ RX6.out (by omega) (wrap16_nn n)).mono ?_
    rintro e w7 ⟨rfl, r, hg⟩
    have RX7 := Lib.hid r
    have RY7 := Lib.hid (RY6.out.kept hg (by omega))
    have Hb7 := Lib.hid (below_grown Hb6.out hg Hb6.out.size (by omega))
    clear r hg RX6 RY6 Hb6
    go_wp2_with fail
    refine (Put16_any _ _ _ _ _ _ _ RY7.out (by omega) (wrap16_nn m)).mono ?_
    rintro e w8 ⟨rfl, r, hg⟩
    have RY8 := Lib.hid r
    have RX8 := Lib.hid (RX7.out.kept hg (by omega))
    have Hb8 := Lib.hid (below_grown Hb7.out hg Hb7.out.size (by omega))
    clear r hg RY7 RX7 Hb7
    go_wp2_with fail
    refine wp_region_any (by kernel_rfl) ?_
    refine wpAny_ready (rs := [0]) (by kernel_rfl) (by simp) ?_
    refine AllReady.cons rfl (fun K hK => ?_) AllReady.nil
    go_simp
    go_wp2_with (first | (go_at_call 11; refine (awake_any _).mono ?_; rintro e wA ⟨rfl, hb⟩; have rx := Row.below (by exact RX8.out) hb (by exact RX8.out.lt); have ry := Row.below (by exact RY8.out) hb (by exact RY8.out.lt); obtain ⟨s1, t1, p1, q1, l1⟩ := pair8 wA _ _ n m rx ry h0 h1 k0 k1; obtain ⟨s2, t2, p2, q2, l2⟩ := pair4 wA _ _ n m rx ry; obtain ⟨s3, t3, p3, q3, l3⟩ := pair2 wA _ _ n m rx ry; have a1 := p1 0; have a2 := q1 0; have a3 := p2 0; have a4 := q2 0; have a5 := p3 0; have a6 := q3 0; simp only [World.drewN_zero] at a1 a2 a3 a4 a5 a6; clear rx ry))
    refine wpAny_quiet_from (by kernel_rfl) (by kernel_rfl) rfl ?_
    repeat (first | go_big_quiet_step (fail) | quiet_step (fail))
    refine wpQuiet_nil ?_
    intro _ hw'
    obtain ⟨nq, hw''⟩ := hw'
    subst hw''
    go_wp2_with fail
    go_ret
    refine ⟨rfl, ?_⟩
    exact Below.trans (Below.trans Hb8.out.drew (Below.mono hb Hb8.out.size)) ⟨rfl, rfl, rfl, Nat.le_refl _, fun _ _ => rfl⟩
theorem walk (n : Int) (wn : (Lit.int .u64 n).wf = true) (m : Int) (wm : (Lit.int .u64 m).wf = true) (w : World) :
    Calls Try.prog 8 #[.int .u64 n, .int .u64 m] w fun e w' => e = .returned (.bool true) ∧ Below w.heap.size w w' := by
  obtain ⟨h0, h1⟩ := bnd64 wn
  obtain ⟨k0, k1⟩ := bnd64 wm
  exact walk_in n m w h0 h1 k0 k1


set_option maxRecDepth 100000 in
theorem lifted (os : Os) (started : os.Started) (H : Type) (enc : TypeId × Value → H) :
    ReturnsInHanded {} Try.checked os 8 .any (Rows.bitsRowSpec.pre6 enc Try.prog Try.f8 Rows.bitsRowRow.domain false) (Rows.bitsRowSpec.post enc Try.prog Try.f8 false true false false) := by
  refine returnsInHanded_of_change_sized (C := Try.checked) own started (by kernel_rfl) Try.func8
    (ChangeSpec.witness6 (enc := enc) (C := Try.checked) false ⟨#[], #[.int .u64 0, .int .u64 0], []⟩ 8 (by kernel_rfl) (by kernel_rfl) (by kernel_rfl) (by kernel_rfl)) ?_
  intro W base args ds gs before hval0 hW _ hsz _
  have hval : ∀ (j : Nat) t v, Try.f8.params[j]? = some t → args[j]? = some v → Value.okWide Try.prog W .any base t v := hval0
  have hW' := hW
  obtain ⟨p, q, hA0, hV, hbef, _, _⟩ := hW
  have hA : DataW.TrodAll enc Try.prog W 0 (fun _ => true) true Try.f8.params.toList args.toList ds p := hA0
  rw [Try.params8] at hA hval
  obtain ⟨v0, vs0, d0, ds0, p0, q0, hargs, rfl, rfl, h0, r0⟩ := trodAll_cons hA
  obtain ⟨v1, vs1, d1, ds1, p1, q1, rfl, rfl, rfl, h1, r1⟩ := trodAll_cons r0
  obtain ⟨rfl, rfl, rfl⟩ := trodAll_nil r1
  obtain rfl : args = #[v0, v1] := by cases args; simp_all
  obtain ⟨rfl, rfl⟩ := trodVars_none hV
  obtain ⟨a0, rfl, _, _, w0⟩ := open_int Try.underlying25 (hval 0 25 v0 rfl rfl) h0
  obtain ⟨a1, rfl, _, _, w1⟩ := open_int Try.underlying25 (hval 1 25 v1 rfl rfl) h1
  refine (walk a0 w0 a1 w1 W).mono fun e W' ⟨he, hb⟩ => ?_
  subst he
  exact ⟨_, rfl, law_post laidOut (of_decide_eq_true (by kernel_rfl)) rfl Try.underlying4 rfl rfl hW' hb⟩

theorem over : Rows.bitsRowRow.holds Try.pinned (OpenSpec.ofChange Rows.bitsRowSpec) :=
  OpenClaim.holds_of_wide 8 Try.f8 rfl rfl rfl rfl rfl rfl rfl ⟨rfl, rfl, rfl, rfl, rfl⟩ rfl rfl rfl rfl rfl (by kernel_rfl) Try.func8 (by kernel_rfl)
    (of_decide_eq_true (by kernel_rfl)) (by unfold Func.isWrapper; first | (rw [if_pos (by decide +kernel)]; kernel_rfl) | (rw [if_neg (by decide +kernel)]; exact ⟨rfl, rfl⟩))
    (fun os started H enc _ => lifted os started H enc)

end Go.Proofs.Ytlkmaompkkdacaa.bitsRow
namespace Go.Proofs.Ytlkmaompkkdacaa
theorem bitsRow_holds : Rows.BitsRowSaid := bitsRow.over
end Go.Proofs.Ytlkmaompkkdacaa
