/-
Of a list with a newer version ahead each snapshot below that sees what it saw; from that on the new one.
-/
import Derived.Test.YteelhldioaaffaaO
import Derived.Laws.AppendOwnNone
namespace Go.Proofs.Yteelhldioaaffaa.keepMore
open Go.ChangeShapes Go.WideShapes Go.ChangeAt Go.RowKit
set_option linter.unusedVariables false

theorem own : ownKnob Try.prog.godebug = none := by kernel_rfl
theorem laidOut : laidOutB Try.prog = true := by kernel_rfl

set_option maxRecDepth 100000 in
set_option maxHeartbeats 8000000 in
theorem walk_in (A : Option Addr) (n c : Nat) (vs : List Ver) (u : Ver) (s : Int) (w : World) (hs : Vers w.heap.size w A n vs) (h0 : A = none → n = 0 ∧ c = 0) (hw : n * 40 ≤ 140737488351232) :
    Calls Try.prog 8 #[.slice A n c, Value.agg #[.int .i64 u.w, .int .i64 u.ts, .bool u.tomb, .string u.val], .int .i64 s] w fun e w' => e = .returned (.bool true) ∧ Below w.heap.size w w' := by
  have V0 := Lib.hid hs
  obtain ⟨i0, hi, hz0, hz1, hz2⟩ := info_parts v27info
  have hown := World.ownsRow_lit (base := w.heap.size) (size := 4) (e := 27) (w.alloc (.cells #[Value.int .i64 u.w, Value.int .i64 u.ts, Value.bool u.tomb, Value.string u.val] 27)) #[Value.int .i64 u.w, Value.int .i64 u.ts, Value.bool u.tomb, Value.string u.val] 1 (by simp) (by unfold maxLen; omega) (by simp)
  cases A with
  | none =>
    obtain ⟨rfl, rfl⟩ := h0 rfl
    obtain rfl : vs = [] := List.eq_nil_of_length_eq_zero V0.out.1
    clear hs h0
    by_cases hl : LegalP [u]
    case neg =>
      have HL : Hid (legalB [u] = false) := legal_no hl
      clear hl
      go_enter Try.func8, Try.ntmps8
      go_wp2_with (at_builtin; refine wpList_append_own_none rfl _ _ 24 rfl w.heap.size 27 i0 4 Try.underlying24 hi _ 1 (vsv [u]) rfl hown rfl ?_)
      obtain ⟨W3, hW3⟩ : ∃ W3, (w.alloc (.cells #[Value.int .i64 u.w, Value.int .i64 u.ts, Value.bool u.tomb, Value.string u.val] 27)).alloc (.cells #[Value.int .i64 u.w, Value.int .i64 u.ts, Value.bool u.tomb, Value.string u.val] 27) = W3 := ⟨_, rfl⟩
      have bU : Blk W3 w.heap.size (vcells u) 27 := by rw [← hW3]; exact (Blk.new w (vcells u) 27).alloc _
      have hB3 : Below w.heap.size w W3 := by rw [← hW3]; exact ((Below.refl _ w).alloc (Nat.le_refl _) _).alloc (by simp) _
      have hrow : VRow W3 w.heap.size (some ⟨w.heap.size + 1, 0, none⟩) 1 [u] := by
        rw [← hW3]
        obtain ⟨A', c', e, hc', h⟩ := own_vrow (vs := [u]) hown
        simp only [World.size_alloc] at e
        cases e; exact h
      have VL := Lib.hid (vrow_vers hrow)
      have BU := Lib.hid bU
      have H0 := Lib.hid hB3
      replace V0 := Lib.hid ((V0.out.below hB3).mono hB3.size)
      clear hown hrow bU hB3
      rw [hW3]
      clear hW3
      go_wp2_with fail
      refine (rlegal_any (some ⟨w.heap.size + 1, 0, none⟩) 1 1 [u] _ VL.out (by omega)).mono ?_
      rintro e w1 ⟨rfl, hb⟩
      rw [HL.out]
      replace BU := Lib.hid (BU.out.below hb BU.out.lt)
      replace V0 := Lib.hid ((V0.out.below hb).mono hb.size)
      replace VL := Lib.hid ((VL.out.below hb).mono hb.size)
      have H1 : Hid (Below w.heap.size w w1) := stepB H0.out hb
      clear hb H0
      go_wp2_with fail
      refine (awake_any _).mono ?_
      rintro e w2 ⟨rfl, hb⟩
      replace BU := Lib.hid (BU.out.below hb BU.out.lt)
      replace V0 := Lib.hid ((V0.out.below hb).mono hb.size)
      replace VL := Lib.hid ((VL.out.below hb).mono hb.size)
      have H2 : Hid (Below w.heap.size w w2) := stepB H1.out hb
      clear hb H1
      go_wp2_with fail
      go_ret
      exact ⟨rfl, H2.out⟩

    have HL : Hid (legalB [u] = true) := legal_yes hl
    clear hl
    by_cases hge : u.ts ≤ s
    · have HC : Hid (clashB [u] s = false) := clash_cons_ge hge
      by_cases ht : u.tomb = false
      case pos =>
        have HB : Hid (seenB [u] s = true) := by show _ = _; rw [seenB_cons_ge hge, ht]; rfl
        have HSn : Hid (seen [u] s = u) := seen_cons_ge hge ht
        have HT := Lib.hid ht
        clear ht
        go_enter Try.func8, Try.ntmps8
        go_wp2_with (at_builtin; refine wpList_append_own_none rfl _ _ 24 rfl w.heap.size 27 i0 4 Try.underlying24 hi _ 1 (vsv [u]) rfl hown rfl ?_)
        obtain ⟨W3, hW3⟩ : ∃ W3, (w.alloc (.cells #[Value.int .i64 u.w, Value.int .i64 u.ts, Value.bool u.tomb, Value.string u.val] 27)).alloc (.cells #[Value.int .i64 u.w, Value.int .i64 u.ts, Value.bool u.tomb, Value.string u.val] 27) = W3 := ⟨_, rfl⟩
        have bU : Blk W3 w.heap.size (vcells u) 27 := by rw [← hW3]; exact (Blk.new w (vcells u) 27).alloc _
        have hB3 : Below w.heap.size w W3 := by rw [← hW3]; exact ((Below.refl _ w).alloc (Nat.le_refl _) _).alloc (by simp) _
        have hrow : VRow W3 w.heap.size (some ⟨w.heap.size + 1, 0, none⟩) 1 [u] := by
          rw [← hW3]
          obtain ⟨A', c', e, hc', h⟩ := own_vrow (vs := [u]) hown
          simp only [World.size_alloc] at e
          cases e; exact h
        have VL := Lib.hid (vrow_vers hrow)
        have BU := Lib.hid bU
        have H0 := Lib.hid hB3
        replace V0 := Lib.hid ((V0.out.below hB3).mono hB3.size)
        clear hown hrow bU hB3
        rw [hW3]
        clear hW3
        go_wp2_with fail
        refine (rlegal_any (some ⟨w.heap.size + 1, 0, none⟩) 1 1 [u] _ VL.out (by omega)).mono ?_
        rintro e w1 ⟨rfl, hb⟩
        rw [HL.out]
        replace BU := Lib.hid (BU.out.below hb BU.out.lt)
        replace V0 := Lib.hid ((V0.out.below hb).mono hb.size)
        replace VL := Lib.hid ((VL.out.below hb).mono hb.size)
        have H1 : Hid (Below w.heap.size w w1) := stepB H0.out hb
        clear hb H0
        go_wp2_with fail
        refine (awake_any _).mono ?_
        rintro e w2 ⟨rfl, hb⟩
        replace BU := Lib.hid (BU.out.below hb BU.out.lt)
        replace V0 := Lib.hid ((V0.out.below hb).mono hb.size)
        replace VL := Lib.hid ((VL.out.below hb).mono hb.size)
        have H2 : Hid (Below w.heap.size w w2) := stepB H1.out hb
        clear hb H1
        go_wp2_with fail
        refine (Seen_any (some ⟨w.heap.size + 1, 0, none⟩) 1 1 s [u] _ (by omega) VL.out).mono ?_
        rintro e w3 ⟨rfl, hb⟩
        rw [HB.out]
        replace BU := Lib.hid (BU.out.below hb BU.out.lt)
        replace V0 := Lib.hid ((V0.out.below hb).mono hb.size)
        replace VL := Lib.hid ((VL.out.below hb).mono hb.size)
        have H3 : Hid (Below w.heap.size w w3) := stepB H2.out hb
        clear hb H2
        have hs3 := H3.out.size
        rw [HSn.out]
        simp only [Ver.agg]
        have hlB := BU.out.lt
        have u0 := BU.out.cell 0
        have u1 := BU.out.cell 1
        have u2 := BU.out.cell 2
        have u3 := BU.out.cell 3
        simp only [vcells, List.getElem?_toArray, List.getElem?_cons_zero, List.getElem?_cons_succ] at u0 u1 u2 u3
        have hnB : ¬ w.heap.size = w3.heap.size := by omega
        have hq : (u.val.toList == u.val.toList) = true := seq_yes rfl
        rw [HT.out] at u2
        have hbn : Below w3.heap.size w3 (w3.alloc (.cells #[Value.int .i64 u.w, Value.int .i64 u.ts, Value.bool u.tomb, Value.string u.val] 27)) := (Below.refl _ w3).alloc (Nat.le_refl _) _
        have VL2 := Lib.hid ((VL.out.below hbn).mono hbn.size)
        have H4 := Lib.hid (stepB H3.out hbn)
        clear hbn
        rw [HT.out] at VL2 H4
        rw [HT.out]
        go_wp2_with fail
        refine (clash_any (some ⟨w.heap.size + 1, 0, none⟩) 1 1 [u] s _ VL2.out (by omega)).mono ?_
        rintro e _ ⟨rfl, rfl⟩
        rw [HC.out]
        go_wp2_with fail
        go_ret
        exact ⟨rfl, H4.out⟩

      case neg =>
        replace ht : u.tomb = true := by simpa using ht
        have HB : Hid (seenB [u] s = false) := by show _ = _; rw [seenB_cons_ge hge, ht]; rfl
        have HT := Lib.hid ht
        clear ht
        go_enter Try.func8, Try.ntmps8
        go_wp2_with (at_builtin; refine wpList_append_own_none rfl _ _ 24 rfl w.heap.size 27 i0 4 Try.underlying24 hi _ 1 (vsv [u]) rfl hown rfl ?_)
        obtain ⟨W3, hW3⟩ : ∃ W3, (w.alloc (.cells #[Value.int .i64 u.w, Value.int .i64 u.ts, Value.bool u.tomb, Value.string u.val] 27)).alloc (.cells #[Value.int .i64 u.w, Value.int .i64 u.ts, Value.bool u.tomb, Value.string u.val] 27) = W3 := ⟨_, rfl⟩
        have bU : Blk W3 w.heap.size (vcells u) 27 := by rw [← hW3]; exact (Blk.new w (vcells u) 27).alloc _
        have hB3 : Below w.heap.size w W3 := by rw [← hW3]; exact ((Below.refl _ w).alloc (Nat.le_refl _) _).alloc (by simp) _
        have hrow : VRow W3 w.heap.size (some ⟨w.heap.size + 1, 0, none⟩) 1 [u] := by
          rw [← hW3]
          obtain ⟨A', c', e, hc', h⟩ := own_vrow (vs := [u]) hown
          simp only [World.size_alloc] at e
          cases e; exact h
        have VL := Lib.hid (vrow_vers hrow)
        have BU := Lib.hid bU
        have H0 := Lib.hid hB3
        replace V0 := Lib.hid ((V0.out.below hB3).mono hB3.size)
        clear hown hrow bU hB3
        rw [hW3]
        clear hW3
        go_wp2_with fail
        refine (rlegal_any (some ⟨w.heap.size + 1, 0, none⟩) 1 1 [u] _ VL.out (by omega)).mono ?_
        rintro e w1 ⟨rfl, hb⟩
        rw [HL.out]
        replace BU := Lib.hid (BU.out.below hb BU.out.lt)
        replace V0 := Lib.hid ((V0.out.below hb).mono hb.size)
        replace VL := Lib.hid ((VL.out.below hb).mono hb.size)
        have H1 : Hid (Below w.heap.size w w1) := stepB H0.out hb
        clear hb H0
        go_wp2_with fail
        refine (awake_any _).mono ?_
        rintro e w2 ⟨rfl, hb⟩
        replace BU := Lib.hid (BU.out.below hb BU.out.lt)
        replace V0 := Lib.hid ((V0.out.below hb).mono hb.size)
        replace VL := Lib.hid ((VL.out.below hb).mono hb.size)
        have H2 : Hid (Below w.heap.size w w2) := stepB H1.out hb
        clear hb H1
        go_wp2_with fail
        refine (Seen_any (some ⟨w.heap.size + 1, 0, none⟩) 1 1 s [u] _ (by omega) VL.out).mono ?_
        rintro e w3 ⟨rfl, hb⟩
        rw [HB.out]
        replace BU := Lib.hid (BU.out.below hb BU.out.lt)
        replace V0 := Lib.hid ((V0.out.below hb).mono hb.size)
        replace VL := Lib.hid ((VL.out.below hb).mono hb.size)
        have H3 : Hid (Below w.heap.size w w3) := stepB H2.out hb
        clear hb H2
        have hs3 := H3.out.size
        obtain ⟨sv, hsv⟩ : ∃ sv, seen [u] s = sv := ⟨_, rfl⟩
        rw [hsv]
        clear hsv
        simp only [Ver.agg]
        have hlB := BU.out.lt
        have u0 := BU.out.cell 0
        have u1 := BU.out.cell 1
        have u2 := BU.out.cell 2
        have u3 := BU.out.cell 3
        simp only [vcells, List.getElem?_toArray, List.getElem?_cons_zero, List.getElem?_cons_succ] at u0 u1 u2 u3
        have hnB : ¬ w.heap.size = w3.heap.size := by omega
        rw [HT.out] at u2
        have hbn : Below w3.heap.size w3 (w3.alloc (.cells #[Value.int .i64 sv.w, Value.int .i64 sv.ts, Value.bool sv.tomb, Value.string sv.val] 27)) := (Below.refl _ w3).alloc (Nat.le_refl _) _
        have VL2 := Lib.hid ((VL.out.below hbn).mono hbn.size)
        have H4 := Lib.hid (stepB H3.out hbn)
        clear hbn
        go_wp2_with fail
        refine (clash_any (some ⟨w.heap.size + 1, 0, none⟩) 1 1 [u] s _ VL2.out (by omega)).mono ?_
        rintro e _ ⟨rfl, rfl⟩
        rw [HC.out]
        go_wp2_with fail
        go_ret
        exact ⟨rfl, H4.out⟩

    · have HC : Hid (clashB [u] s = true) := clash_cons_lt hge
      have HB : Hid (seenB [u] s = seenB [] s) := seenB_cons_lt hge
      have HSn : Hid (seen [u] s = seen [] s) := seen_cons_lt hge
      go_enter Try.func8, Try.ntmps8
      go_wp2_with (at_builtin; refine wpList_append_own_none rfl _ _ 24 rfl w.heap.size 27 i0 4 Try.underlying24 hi _ 1 (vsv [u]) rfl hown rfl ?_)
      obtain ⟨W3, hW3⟩ : ∃ W3, (w.alloc (.cells #[Value.int .i64 u.w, Value.int .i64 u.ts, Value.bool u.tomb, Value.string u.val] 27)).alloc (.cells #[Value.int .i64 u.w, Value.int .i64 u.ts, Value.bool u.tomb, Value.string u.val] 27) = W3 := ⟨_, rfl⟩
      have bU : Blk W3 w.heap.size (vcells u) 27 := by rw [← hW3]; exact (Blk.new w (vcells u) 27).alloc _
      have hB3 : Below w.heap.size w W3 := by rw [← hW3]; exact ((Below.refl _ w).alloc (Nat.le_refl _) _).alloc (by simp) _
      have hrow : VRow W3 w.heap.size (some ⟨w.heap.size + 1, 0, none⟩) 1 [u] := by
        rw [← hW3]
        obtain ⟨A', c', e, hc', h⟩ := own_vrow (vs := [u]) hown
        simp only [World.size_alloc] at e
        cases e; exact h
      have VL := Lib.hid (vrow_vers hrow)
      have BU := Lib.hid bU
      have H0 := Lib.hid hB3
      replace V0 := Lib.hid ((V0.out.below hB3).mono hB3.size)
      clear hown hrow bU hB3
      rw [hW3]
      clear hW3
      go_wp2_with fail
      refine (rlegal_any (some ⟨w.heap.size + 1, 0, none⟩) 1 1 [u] _ VL.out (by omega)).mono ?_
      rintro e w1 ⟨rfl, hb⟩
      rw [HL.out]
      replace BU := Lib.hid (BU.out.below hb BU.out.lt)
      replace V0 := Lib.hid ((V0.out.below hb).mono hb.size)
      replace VL := Lib.hid ((VL.out.below hb).mono hb.size)
      have H1 : Hid (Below w.heap.size w w1) := stepB H0.out hb
      clear hb H0
      go_wp2_with fail
      refine (awake_any _).mono ?_
      rintro e w2 ⟨rfl, hb⟩
      replace BU := Lib.hid (BU.out.below hb BU.out.lt)
      replace V0 := Lib.hid ((V0.out.below hb).mono hb.size)
      replace VL := Lib.hid ((VL.out.below hb).mono hb.size)
      have H2 : Hid (Below w.heap.size w w2) := stepB H1.out hb
      clear hb H1
      go_wp2_with fail
      refine (Seen_any (some ⟨w.heap.size + 1, 0, none⟩) 1 1 s [u] _ (by omega) VL.out).mono ?_
      rintro e w3 ⟨rfl, hb⟩
      rw [HB.out]
      replace BU := Lib.hid (BU.out.below hb BU.out.lt)
      replace V0 := Lib.hid ((V0.out.below hb).mono hb.size)
      replace VL := Lib.hid ((VL.out.below hb).mono hb.size)
      have H3 : Hid (Below w.heap.size w w3) := stepB H2.out hb
      clear hb H2
      have hs3 := H3.out.size
      rw [HSn.out]
      obtain ⟨d, hd⟩ : ∃ d, seen [] s = d := ⟨_, rfl⟩
      obtain ⟨bd, hbd⟩ : ∃ bd, seenB [] s = bd := ⟨_, rfl⟩
      have Hd := Lib.hid hd
      have Hbd := Lib.hid hbd
      rw [hd, hbd]
      clear hd hbd
      simp only [Ver.agg]
      have hlB := BU.out.lt
      have u0 := BU.out.cell 0
      have u1 := BU.out.cell 1
      have u2 := BU.out.cell 2
      have u3 := BU.out.cell 3
      simp only [vcells, List.getElem?_toArray, List.getElem?_cons_zero, List.getElem?_cons_succ] at u0 u1 u2 u3
      have hnB : ¬ w.heap.size = w3.heap.size := by omega
      have hbn : Below w3.heap.size w3 (w3.alloc (.cells #[Value.int .i64 d.w, Value.int .i64 d.ts, Value.bool d.tomb, Value.string d.val] 27)) := (Below.refl _ w3).alloc (Nat.le_refl _) _
      have V2 := Lib.hid ((V0.out.below hbn).mono hbn.size)
      have VL2 := Lib.hid ((VL.out.below hbn).mono hbn.size)
      have H4 := Lib.hid (stepB H3.out hbn)
      clear hbn V0 VL
      go_wp2_with fail
      refine (Seen_any none 0 0 s [] _ (by omega) V2.out).mono ?_
      rintro e w5 ⟨rfl, hb⟩
      rw [Hd.out, Hbd.out]
      simp only [Ver.agg]
      have bA := (Blk.new w3 (vcells d) 27).below hb (by simp)
      have hs5 := hb.size
      rw [World.size_alloc] at hs5
      have hl35 : w3.heap.size < w5.heap.size := by omega
      have hn35 : ¬ w3.heap.size = w5.heap.size := by omega
      have x0 := bA.cell 0
      have x1 := bA.cell 1
      have x2 := bA.cell 2
      have x3 := bA.cell 3
      simp only [vcells, List.getElem?_toArray, List.getElem?_cons_zero, List.getElem?_cons_succ] at x0 x1 x2 x3
      have hq : (d.val.toList == d.val.toList) = true := seq_yes rfl
      have VL3 := (VL2.out.below hb).mono hb.size
      have H5 := stepB H4.out hb
      have hbn : Below w5.heap.size w5 (w5.alloc (.cells #[Value.int .i64 d.w, Value.int .i64 d.ts, Value.bool d.tomb, Value.string d.val] 27)) := (Below.refl _ w5).alloc (Nat.le_refl _) _
      have VL4 := Lib.hid ((VL3.below hbn).mono hbn.size)
      have H6 := Lib.hid (stepB H5 hbn)
      clear hbn hb VL3 H5 bA VL2 H4 V2
      go_wp2_with fail
      refine (clash_any (some ⟨w.heap.size + 1, 0, none⟩) 1 1 [u] s _ VL4.out (by omega)).mono ?_
      rintro e _ ⟨rfl, rfl⟩
      rw [HC.out]
      go_wp2_with fail
      go_ret
      exact ⟨rfl, H6.out⟩

  | some a =>
    simp only [World.size_alloc] at hown
    have Hl : Hid ((vsv vs).length = n * 4) := by show _ = _; rw [vsv_len, hs.1]
    have Hc : Hid (∀ i u', (vsv vs)[i]? = some u' → ((w.alloc (.cells #[Value.int .i64 u.w, Value.int .i64 u.ts, Value.bool u.tomb, Value.string u.val] 27)).alloc (.cells #[Value.int .i64 u.w, Value.int .i64 u.ts, Value.bool u.tomb, Value.string u.val] 27)).cell? (a.add i) = some u') := by
      by_cases h0 : 0 < n
      · obtain ⟨g, off, e, hg, hc⟩ := hs.2 h0
        cases e
        intro i u' hu
        have := vers_cells hs.1 hc i u' hu
        exact ((((Below.refl w.heap.size w).alloc (Nat.le_refl _) _).alloc (by simp) _).cell (p := (⟨g, off, none⟩ : Addr).add i) (by rw [add_plain]; exact hg)).trans this
      · have hv : vs = [] := List.eq_nil_of_length_eq_zero (by have := hs.1; omega)
        intro i u' hu
        rw [hv] at hu; simp [vsv] at hu
    clear hs h0
    by_cases z1 : 300 < n
    · go_enter Try.func8, Try.ntmps8
      go_wp2_with (at_builtin; refine wpList_append_own _ rfl _ _ 24 rfl w.heap.size 27 i0 _ 4 40 Try.underlying24 hi hz0 hz1 hz2 rfl (by decide) _ 1 (vsv [u]) rfl hown a n c (vsv vs) rfl Hl.out Hc.out (vsv_one vs) (by unfold maxLen; omega) (by omega) (by simp only [World.size_alloc]; omega) ?_; intro v' W3 hown' hgrow3 hnil3)
      have hA' : vsv [u] ++ vsv vs = vsv (u :: vs) := by rw [← vsv_app]; rfl
      rw [hA'] at hown'
      obtain ⟨A', c', rfl, hc', hrow⟩ := own_vrow hown'
      have bU : Blk W3 w.heap.size (vcells u) 27 := by
        have h0 : Blk ((w.alloc (.cells #[Value.int .i64 u.w, Value.int .i64 u.ts, Value.bool u.tomb, Value.string u.val] 27)).alloc (.cells #[Value.int .i64 u.w, Value.int .i64 u.ts, Value.bool u.tomb, Value.string u.val] 27)) w.heap.size (vcells u) 27 := (Blk.new w (vcells u) 27).alloc _
        exact h0.below (((Below.refl (w.heap.size + 1) _)).grown hgrow3 (by simp) (fun j e => by cases e; simp)) (by omega)
      have hB3 : Below w.heap.size w W3 := (((Below.refl _ w).alloc (Nat.le_refl _) _).alloc (by simp) _).grown hgrow3 (by simp; omega) (fun j e => (World.ownsRow.lt hown j e).1)
      clear hown' hgrow3 hnil3 hA'
      have VL := Lib.hid (vrow_vers hrow)
      have BU := Lib.hid bU
      have H0 := Lib.hid hB3
      replace V0 := Lib.hid ((V0.out.below hB3).mono hB3.size)
      clear hown hrow bU hB3
      go_wp2_with fail
      refine (awake_any _).mono ?_
      rintro e w1 ⟨rfl, hb⟩
      replace V0 := Lib.hid ((V0.out.below hb).mono hb.size)
      replace VL := Lib.hid ((VL.out.below hb).mono hb.size)
      have H1 : Hid (Below w.heap.size w w1) := stepB H0.out hb
      clear hb H0
      go_wp2_with fail
      go_ret
      exact ⟨rfl, H1.out⟩

    have hn : n ≤ 1000000 := by omega
    by_cases hl : LegalP (u :: vs)
    case neg =>
      have HL : Hid (legalB (u :: vs) = false) := legal_no hl
      clear hl
      go_enter Try.func8, Try.ntmps8
      go_wp2_with (at_builtin; refine wpList_append_own _ rfl _ _ 24 rfl w.heap.size 27 i0 _ 4 40 Try.underlying24 hi hz0 hz1 hz2 rfl (by decide) _ 1 (vsv [u]) rfl hown a n c (vsv vs) rfl Hl.out Hc.out (vsv_one vs) (by unfold maxLen; omega) (by omega) (by simp only [World.size_alloc]; omega) ?_; intro v' W3 hown' hgrow3 hnil3)
      have hA' : vsv [u] ++ vsv vs = vsv (u :: vs) := by rw [← vsv_app]; rfl
      rw [hA'] at hown'
      obtain ⟨A', c', rfl, hc', hrow⟩ := own_vrow hown'
      have bU : Blk W3 w.heap.size (vcells u) 27 := by
        have h0 : Blk ((w.alloc (.cells #[Value.int .i64 u.w, Value.int .i64 u.ts, Value.bool u.tomb, Value.string u.val] 27)).alloc (.cells #[Value.int .i64 u.w, Value.int .i64 u.ts, Value.bool u.tomb, Value.string u.val] 27)) w.heap.size (vcells u) 27 := (Blk.new w (vcells u) 27).alloc _
        exact h0.below (((Below.refl (w.heap.size + 1) _)).grown hgrow3 (by simp) (fun j e => by cases e; simp)) (by omega)
      have hB3 : Below w.heap.size w W3 := (((Below.refl _ w).alloc (Nat.le_refl _) _).alloc (by simp) _).grown hgrow3 (by simp; omega) (fun j e => (World.ownsRow.lt hown j e).1)
      clear hown' hgrow3 hnil3 hA'
      have VL := Lib.hid (vrow_vers hrow)
      have BU := Lib.hid bU
      have H0 := Lib.hid hB3
      replace V0 := Lib.hid ((V0.out.below hB3).mono hB3.size)
      clear hown hrow bU hB3
      go_wp2_with fail
      refine (rlegal_any A' (1 + n) c' (u :: vs) _ VL.out (by omega)).mono ?_
      rintro e w1 ⟨rfl, hb⟩
      rw [HL.out]
      replace BU := Lib.hid (BU.out.below hb BU.out.lt)
      replace V0 := Lib.hid ((V0.out.below hb).mono hb.size)
      replace VL := Lib.hid ((VL.out.below hb).mono hb.size)
      have H1 : Hid (Below w.heap.size w w1) := stepB H0.out hb
      clear hb H0
      go_wp2_with fail
      refine (awake_any _).mono ?_
      rintro e w2 ⟨rfl, hb⟩
      replace BU := Lib.hid (BU.out.below hb BU.out.lt)
      replace V0 := Lib.hid ((V0.out.below hb).mono hb.size)
      replace VL := Lib.hid ((VL.out.below hb).mono hb.size)
      have H2 : Hid (Below w.heap.size w w2) := stepB H1.out hb
      clear hb H1
      go_wp2_with fail
      go_ret
      exact ⟨rfl, H2.out⟩

    have HL : Hid (legalB (u :: vs) = true) := legal_yes hl
    clear hl
    by_cases hge : u.ts ≤ s
    · have HC : Hid (clashB (u :: vs) s = false) := clash_cons_ge hge
      by_cases ht : u.tomb = false
      case pos =>
        have HB : Hid (seenB (u :: vs) s = true) := by show _ = _; rw [seenB_cons_ge hge, ht]; rfl
        have HSn : Hid (seen (u :: vs) s = u) := seen_cons_ge hge ht
        have HT := Lib.hid ht
        clear ht
        go_enter Try.func8, Try.ntmps8
        go_wp2_with (at_builtin; refine wpList_append_own _ rfl _ _ 24 rfl w.heap.size 27 i0 _ 4 40 Try.underlying24 hi hz0 hz1 hz2 rfl (by decide) _ 1 (vsv [u]) rfl hown a n c (vsv vs) rfl Hl.out Hc.out (vsv_one vs) (by unfold maxLen; omega) (by omega) (by simp only [World.size_alloc]; omega) ?_; intro v' W3 hown' hgrow3 hnil3)
        have hA' : vsv [u] ++ vsv vs = vsv (u :: vs) := by rw [← vsv_app]; rfl
        rw [hA'] at hown'
        obtain ⟨A', c', rfl, hc', hrow⟩ := own_vrow hown'
        have bU : Blk W3 w.heap.size (vcells u) 27 := by
          have h0 : Blk ((w.alloc (.cells #[Value.int .i64 u.w, Value.int .i64 u.ts, Value.bool u.tomb, Value.string u.val] 27)).alloc (.cells #[Value.int .i64 u.w, Value.int .i64 u.ts, Value.bool u.tomb, Value.string u.val] 27)) w.heap.size (vcells u) 27 := (Blk.new w (vcells u) 27).alloc _
          exact h0.below (((Below.refl (w.heap.size + 1) _)).grown hgrow3 (by simp) (fun j e => by cases e; simp)) (by omega)
        have hB3 : Below w.heap.size w W3 := (((Below.refl _ w).alloc (Nat.le_refl _) _).alloc (by simp) _).grown hgrow3 (by simp; omega) (fun j e => (World.ownsRow.lt hown j e).1)
        clear hown' hgrow3 hnil3 hA'
        have VL := Lib.hid (vrow_vers hrow)
        have BU := Lib.hid bU
        have H0 := Lib.hid hB3
        replace V0 := Lib.hid ((V0.out.below hB3).mono hB3.size)
        clear hown hrow bU hB3
        go_wp2_with fail
        refine (rlegal_any A' (1 + n) c' (u :: vs) _ VL.out (by omega)).mono ?_
        rintro e w1 ⟨rfl, hb⟩
        rw [HL.out]
        replace BU := Lib.hid (BU.out.below hb BU.out.lt)
        replace V0 := Lib.hid ((V0.out.below hb).mono hb.size)
        replace VL := Lib.hid ((VL.out.below hb).mono hb.size)
        have H1 : Hid (Below w.heap.size w w1) := stepB H0.out hb
        clear hb H0
        go_wp2_with fail
        refine (awake_any _).mono ?_
        rintro e w2 ⟨rfl, hb⟩
        replace BU := Lib.hid (BU.out.below hb BU.out.lt)
        replace V0 := Lib.hid ((V0.out.below hb).mono hb.size)
        replace VL := Lib.hid ((VL.out.below hb).mono hb.size)
        have H2 : Hid (Below w.heap.size w w2) := stepB H1.out hb
        clear hb H1
        go_wp2_with fail
        refine (Seen_any A' (1 + n) c' s (u :: vs) _ (by omega) VL.out).mono ?_
        rintro e w3 ⟨rfl, hb⟩
        rw [HB.out]
        replace BU := Lib.hid (BU.out.below hb BU.out.lt)
        replace V0 := Lib.hid ((V0.out.below hb).mono hb.size)
        replace VL := Lib.hid ((VL.out.below hb).mono hb.size)
        have H3 : Hid (Below w.heap.size w w3) := stepB H2.out hb
        clear hb H2
        have hs3 := H3.out.size
        rw [HSn.out]
        simp only [Ver.agg]
        have hlB := BU.out.lt
        have u0 := BU.out.cell 0
        have u1 := BU.out.cell 1
        have u2 := BU.out.cell 2
        have u3 := BU.out.cell 3
        simp only [vcells, List.getElem?_toArray, List.getElem?_cons_zero, List.getElem?_cons_succ] at u0 u1 u2 u3
        have hnB : ¬ w.heap.size = w3.heap.size := by omega
        have hq : (u.val.toList == u.val.toList) = true := seq_yes rfl
        rw [HT.out] at u2
        have hbn : Below w3.heap.size w3 (w3.alloc (.cells #[Value.int .i64 u.w, Value.int .i64 u.ts, Value.bool u.tomb, Value.string u.val] 27)) := (Below.refl _ w3).alloc (Nat.le_refl _) _
        have VL2 := Lib.hid ((VL.out.below hbn).mono hbn.size)
        have H4 := Lib.hid (stepB H3.out hbn)
        clear hbn
        rw [HT.out] at VL2 H4
        rw [HT.out]
        go_wp2_with fail
        refine (clash_any A' (1 + n) c' (u :: vs) s _ VL2.out (by omega)).mono ?_
        rintro e _ ⟨rfl, rfl⟩
        rw [HC.out]
        go_wp2_with fail
        go_ret
        exact ⟨rfl, H4.out⟩

      case neg =>
        replace ht : u.tomb = true := by simpa using ht
        have HB : Hid (seenB (u :: vs) s = false) := by show _ = _; rw [seenB_cons_ge hge, ht]; rfl
        have HT := Lib.hid ht
        clear ht
        go_enter Try.func8, Try.ntmps8
        go_wp2_with (at_builtin; refine wpList_append_own _ rfl _ _ 24 rfl w.heap.size 27 i0 _ 4 40 Try.underlying24 hi hz0 hz1 hz2 rfl (by decide) _ 1 (vsv [u]) rfl hown a n c (vsv vs) rfl Hl.out Hc.out (vsv_one vs) (by unfold maxLen; omega) (by omega) (by simp only [World.size_alloc]; omega) ?_; intro v' W3 hown' hgrow3 hnil3)
        have hA' : vsv [u] ++ vsv vs = vsv (u :: vs) := by rw [← vsv_app]; rfl
        rw [hA'] at hown'
        obtain ⟨A', c', rfl, hc', hrow⟩ := own_vrow hown'
        have bU : Blk W3 w.heap.size (vcells u) 27 := by
          have h0 : Blk ((w.alloc (.cells #[Value.int .i64 u.w, Value.int .i64 u.ts, Value.bool u.tomb, Value.string u.val] 27)).alloc (.cells #[Value.int .i64 u.w, Value.int .i64 u.ts, Value.bool u.tomb, Value.string u.val] 27)) w.heap.size (vcells u) 27 := (Blk.new w (vcells u) 27).alloc _
          exact h0.below (((Below.refl (w.heap.size + 1) _)).grown hgrow3 (by simp) (fun j e => by cases e; simp)) (by omega)
        have hB3 : Below w.heap.size w W3 := (((Below.refl _ w).alloc (Nat.le_refl _) _).alloc (by simp) _).grown hgrow3 (by simp; omega) (fun j e => (World.ownsRow.lt hown j e).1)
        clear hown' hgrow3 hnil3 hA'
        have VL := Lib.hid (vrow_vers hrow)
        have BU := Lib.hid bU
        have H0 := Lib.hid hB3
        replace V0 := Lib.hid ((V0.out.below hB3).mono hB3.size)
        clear hown hrow bU hB3
        go_wp2_with fail
        refine (rlegal_any A' (1 + n) c' (u :: vs) _ VL.out (by omega)).mono ?_
        rintro e w1 ⟨rfl, hb⟩
        rw [HL.out]
        replace BU := Lib.hid (BU.out.below hb BU.out.lt)
        replace V0 := Lib.hid ((V0.out.below hb).mono hb.size)
        replace VL := Lib.hid ((VL.out.below hb).mono hb.size)
        have H1 : Hid (Below w.heap.size w w1) := stepB H0.out hb
        clear hb H0
        go_wp2_with fail
        refine (awake_any _).mono ?_
        rintro e w2 ⟨rfl, hb⟩
        replace BU := Lib.hid (BU.out.below hb BU.out.lt)
        replace V0 := Lib.hid ((V0.out.below hb).mono hb.size)
        replace VL := Lib.hid ((VL.out.below hb).mono hb.size)
        have H2 : Hid (Below w.heap.size w w2) := stepB H1.out hb
        clear hb H1
        go_wp2_with fail
        refine (Seen_any A' (1 + n) c' s (u :: vs) _ (by omega) VL.out).mono ?_
        rintro e w3 ⟨rfl, hb⟩
        rw [HB.out]
        replace BU := Lib.hid (BU.out.below hb BU.out.lt)
        replace V0 := Lib.hid ((V0.out.below hb).mono hb.size)
        replace VL := Lib.hid ((VL.out.below hb).mono hb.size)
        have H3 : Hid (Below w.heap.size w w3) := stepB H2.out hb
        clear hb H2
        have hs3 := H3.out.size
        obtain ⟨sv, hsv⟩ : ∃ sv, seen (u :: vs) s = sv := ⟨_, rfl⟩
        rw [hsv]
        clear hsv
        simp only [Ver.agg]
        have hlB := BU.out.lt
        have u0 := BU.out.cell 0
        have u1 := BU.out.cell 1
        have u2 := BU.out.cell 2
        have u3 := BU.out.cell 3
        simp only [vcells, List.getElem?_toArray, List.getElem?_cons_zero, List.getElem?_cons_succ] at u0 u1 u2 u3
        have hnB : ¬ w.heap.size = w3.heap.size := by omega
        rw [HT.out] at u2
        have hbn : Below w3.heap.size w3 (w3.alloc (.cells #[Value.int .i64 sv.w, Value.int .i64 sv.ts, Value.bool sv.tomb, Value.string sv.val] 27)) := (Below.refl _ w3).alloc (Nat.le_refl _) _
        have VL2 := Lib.hid ((VL.out.below hbn).mono hbn.size)
        have H4 := Lib.hid (stepB H3.out hbn)
        clear hbn
        go_wp2_with fail
        refine (clash_any A' (1 + n) c' (u :: vs) s _ VL2.out (by omega)).mono ?_
        rintro e _ ⟨rfl, rfl⟩
        rw [HC.out]
        go_wp2_with fail
        go_ret
        exact ⟨rfl, H4.out⟩

    · have HC : Hid (clashB (u :: vs) s = true) := clash_cons_lt hge
      have HB : Hid (seenB (u :: vs) s = seenB vs s) := seenB_cons_lt hge
      have HSn : Hid (seen (u :: vs) s = seen vs s) := seen_cons_lt hge
      go_enter Try.func8, Try.ntmps8
      go_wp2_with (at_builtin; refine wpList_append_own _ rfl _ _ 24 rfl w.heap.size 27 i0 _ 4 40 Try.underlying24 hi hz0 hz1 hz2 rfl (by decide) _ 1 (vsv [u]) rfl hown a n c (vsv vs) rfl Hl.out Hc.out (vsv_one vs) (by unfold maxLen; omega) (by omega) (by simp only [World.size_alloc]; omega) ?_; intro v' W3 hown' hgrow3 hnil3)
      have hA' : vsv [u] ++ vsv vs = vsv (u :: vs) := by rw [← vsv_app]; rfl
      rw [hA'] at hown'
      obtain ⟨A', c', rfl, hc', hrow⟩ := own_vrow hown'
      have bU : Blk W3 w.heap.size (vcells u) 27 := by
        have h0 : Blk ((w.alloc (.cells #[Value.int .i64 u.w, Value.int .i64 u.ts, Value.bool u.tomb, Value.string u.val] 27)).alloc (.cells #[Value.int .i64 u.w, Value.int .i64 u.ts, Value.bool u.tomb, Value.string u.val] 27)) w.heap.size (vcells u) 27 := (Blk.new w (vcells u) 27).alloc _
        exact h0.below (((Below.refl (w.heap.size + 1) _)).grown hgrow3 (by simp) (fun j e => by cases e; simp)) (by omega)
      have hB3 : Below w.heap.size w W3 := (((Below.refl _ w).alloc (Nat.le_refl _) _).alloc (by simp) _).grown hgrow3 (by simp; omega) (fun j e => (World.ownsRow.lt hown j e).1)
      clear hown' hgrow3 hnil3 hA'
      have VL := Lib.hid (vrow_vers hrow)
      have BU := Lib.hid bU
      have H0 := Lib.hid hB3
      replace V0 := Lib.hid ((V0.out.below hB3).mono hB3.size)
      clear hown hrow bU hB3
      go_wp2_with fail
      refine (rlegal_any A' (1 + n) c' (u :: vs) _ VL.out (by omega)).mono ?_
      rintro e w1 ⟨rfl, hb⟩
      rw [HL.out]
      replace BU := Lib.hid (BU.out.below hb BU.out.lt)
      replace V0 := Lib.hid ((V0.out.below hb).mono hb.size)
      replace VL := Lib.hid ((VL.out.below hb).mono hb.size)
      have H1 : Hid (Below w.heap.size w w1) := stepB H0.out hb
      clear hb H0
      go_wp2_with fail
      refine (awake_any _).mono ?_
      rintro e w2 ⟨rfl, hb⟩
      replace BU := Lib.hid (BU.out.below hb BU.out.lt)
      replace V0 := Lib.hid ((V0.out.below hb).mono hb.size)
      replace VL := Lib.hid ((VL.out.below hb).mono hb.size)
      have H2 : Hid (Below w.heap.size w w2) := stepB H1.out hb
      clear hb H1
      go_wp2_with fail
      refine (Seen_any A' (1 + n) c' s (u :: vs) _ (by omega) VL.out).mono ?_
      rintro e w3 ⟨rfl, hb⟩
      rw [HB.out]
      replace BU := Lib.hid (BU.out.below hb BU.out.lt)
      replace V0 := Lib.hid ((V0.out.below hb).mono hb.size)
      replace VL := Lib.hid ((VL.out.below hb).mono hb.size)
      have H3 : Hid (Below w.heap.size w w3) := stepB H2.out hb
      clear hb H2
      have hs3 := H3.out.size
      rw [HSn.out]
      obtain ⟨d, hd⟩ : ∃ d, seen vs s = d := ⟨_, rfl⟩
      obtain ⟨bd, hbd⟩ : ∃ bd, seenB vs s = bd := ⟨_, rfl⟩
      have Hd := Lib.hid hd
      have Hbd := Lib.hid hbd
      rw [hd, hbd]
      clear hd hbd
      simp only [Ver.agg]
      have hlB := BU.out.lt
      have u0 := BU.out.cell 0
      have u1 := BU.out.cell 1
      have u2 := BU.out.cell 2
      have u3 := BU.out.cell 3
      simp only [vcells, List.getElem?_toArray, List.getElem?_cons_zero, List.getElem?_cons_succ] at u0 u1 u2 u3
      have hnB : ¬ w.heap.size = w3.heap.size := by omega
      have hbn : Below w3.heap.size w3 (w3.alloc (.cells #[Value.int .i64 d.w, Value.int .i64 d.ts, Value.bool d.tomb, Value.string d.val] 27)) := (Below.refl _ w3).alloc (Nat.le_refl _) _
      have V2 := Lib.hid ((V0.out.below hbn).mono hbn.size)
      have VL2 := Lib.hid ((VL.out.below hbn).mono hbn.size)
      have H4 := Lib.hid (stepB H3.out hbn)
      clear hbn V0 VL
      go_wp2_with fail
      refine (Seen_any (some a) n c s vs _ (by omega) V2.out).mono ?_
      rintro e w5 ⟨rfl, hb⟩
      rw [Hd.out, Hbd.out]
      simp only [Ver.agg]
      have bA := (Blk.new w3 (vcells d) 27).below hb (by simp)
      have hs5 := hb.size
      rw [World.size_alloc] at hs5
      have hl35 : w3.heap.size < w5.heap.size := by omega
      have hn35 : ¬ w3.heap.size = w5.heap.size := by omega
      have x0 := bA.cell 0
      have x1 := bA.cell 1
      have x2 := bA.cell 2
      have x3 := bA.cell 3
      simp only [vcells, List.getElem?_toArray, List.getElem?_cons_zero, List.getElem?_cons_succ] at x0 x1 x2 x3
      have hq : (d.val.toList == d.val.toList) = true := seq_yes rfl
      have VL3 := (VL2.out.below hb).mono hb.size
      have H5 := stepB H4.out hb
      have hbn : Below w5.heap.size w5 (w5.alloc (.cells #[Value.int .i64 d.w, Value.int .i64 d.ts, Value.bool d.tomb, Value.string d.val] 27)) := (Below.refl _ w5).alloc (Nat.le_refl _) _
      have VL4 := Lib.hid ((VL3.below hbn).mono hbn.size)
      have H6 := Lib.hid (stepB H5 hbn)
      clear hbn hb VL3 H5 bA VL2 H4 V2
      go_wp2_with fail
      refine (clash_any A' (1 + n) c' (u :: vs) s _ VL4.out (by omega)).mono ?_
      rintro e _ ⟨rfl, rfl⟩
      rw [HC.out]
      go_wp2_with fail
      go_ret
      exact ⟨rfl, H6.out⟩

theorem walk (A : Option Addr) (n c : Nat) (vs : List Ver) (u : Ver) (s : Int) (hf : (Lit.int .i64 s).wf = true) (w : World) (hs : Vers w.heap.size w A n vs) (hc : n ≤ c) (hm : n ≤ maxLen) (h0 : A = none → n = 0 ∧ c = 0) (hw : n * 40 ≤ reachBytes) :
    Calls Try.prog 8 #[.slice A n c, u.agg, .int .i64 s] w fun e w' => e = .returned (.bool true) ∧ Below w.heap.size w w' := walk_in A n c vs u s w hs h0 hw


set_option maxRecDepth 100000 in
theorem lifted (os : Os) (started : os.Started) (H : Type) (enc : TypeId × Value → H) :
    ReturnsInHanded {} Try.checked os 8 .any (Rows.keepMoreSpec.pre6 enc Try.prog Try.f8 Rows.keepMoreRow.domain false) (Rows.keepMoreSpec.post enc Try.prog Try.f8 false true false false) := by
  refine returnsInHanded_of_change_sized (C := Try.checked) own started (by kernel_rfl) Try.func8
    (ChangeSpec.witness6 (enc := enc) (C := Try.checked) false ⟨#[], #[.slice none 0 0, .agg #[.int .i64 0, .int .i64 0, .bool false, .string ⟨#[]⟩], .int .i64 0], []⟩ 8 (by kernel_rfl) (by kernel_rfl) (by kernel_rfl) (by kernel_rfl)) ?_
  intro W base args ds gs before hval0 hW _ hsz _
  have hval : ∀ (j : Nat) t v, Try.f8.params[j]? = some t → args[j]? = some v → Value.okWide Try.prog W .any base t v := hval0
  have hW' := hW
  obtain ⟨p, q, hA0, hV, hbef, _, _⟩ := hW
  have hA : DataW.TrodAll enc Try.prog W 0 (fun _ => true) true Try.f8.params.toList args.toList ds p := hA0
  rw [Try.params8] at hA hval
  obtain ⟨v0, vs0, d0, ds0, p0, q0, hargs, rfl, rfl, h0, r0⟩ := trodAll_cons hA
  obtain ⟨v1, vs1, d1, ds1, p1, q1, rfl, rfl, rfl, h1, r1⟩ := trodAll_cons r0
  obtain ⟨v2, vs2, d2, ds2, p2, q2, rfl, rfl, rfl, h2, r2⟩ := trodAll_cons r1
  obtain ⟨rfl, rfl, rfl⟩ := trodAll_nil r2
  obtain rfl : args = #[v0, v1, v2] := by cases args; simp_all
  obtain ⟨rfl, rfl⟩ := trodVars_none hV
  obtain ⟨A0, n0, c0, vv0, rfl, rd0, nc0, mx0, nl0, rg0⟩ := open_vers (hval 0 24 v0 rfl rfl) h0
  have wt0 := vers_weight h0 (weight_at (ts := Try.f8.params.toList) hsz (j := 0) (by rw [Try.params8]; rfl) rfl)
  obtain ⟨u1, rfl, ru1⟩ := open_ver (hval 1 27 v1 rfl rfl) h1
  obtain ⟨a2, rfl, _, _, w2⟩ := open_int Try.underlying3 (hval 2 3 v2 rfl rfl) h2
  refine (walk A0 n0 c0 vv0 u1 a2 w2 W rd0 nc0 mx0 nl0 wt0).mono fun e W' ⟨he, hb⟩ => ?_
  subst he
  exact ⟨_, rfl, law_post laidOut (of_decide_eq_true (by kernel_rfl)) rfl Try.underlying4 rfl rfl hW' hb⟩

theorem over : Rows.keepMoreRow.holds Try.pinned (OpenSpec.ofChange Rows.keepMoreSpec) :=
  OpenClaim.holds_of_wide 8 Try.f8 rfl rfl rfl rfl rfl rfl rfl ⟨rfl, rfl, rfl, rfl, rfl⟩ rfl rfl rfl rfl rfl (by kernel_rfl) Try.func8 (by kernel_rfl)
    (of_decide_eq_true (by kernel_rfl)) (by unfold Func.isWrapper; first | (rw [if_pos (by decide +kernel)]; kernel_rfl) | (rw [if_neg (by decide +kernel)]; exact ⟨rfl, rfl⟩))
    (fun os started H enc _ => lifted os started H enc)

end Go.Proofs.Yteelhldioaaffaa.keepMore
namespace Go.Proofs.Yteelhldioaaffaa
theorem keepMore_holds : Rows.KeepMoreSaid := keepMore.over
end Go.Proofs.Yteelhldioaaffaa
