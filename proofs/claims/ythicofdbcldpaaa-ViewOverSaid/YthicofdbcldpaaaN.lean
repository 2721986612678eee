/- The words' Of. -/
import Derived.Test.YthicofdbcldpaaaM
namespace Go.Proofs.Ythicofdbcldpaaa
open Go.ChangeShapes Go.WideShapes Go.ChangeAt Go.RowKit Go.Shelf Go.Sort Go.Lib
set_option linter.unusedVariables false
set_option linter.unusedSimpArgs false
theorem hset {W : World} {B j : Nat} {c : Array Value} {t : TypeId} {f : Nat × Nat} (h : W.heap[B]? = some (.cells c t f)) (v : Value) : (W.setCell ⟨B, j, none⟩ v).heap[B]? = some (.cells (c.setIfInBounds j v) t f) := by
  show (W.heap.modify B _)[B]? = _
  rw [Array.getElem?_modify, if_pos rfl, h]
  rfl
def ROfEnd (own high : Int) (l : List Int) (w : World) (e : Ending) (w' : World) : Prop :=
  ∃ A m c, e = .returned (.agg #[.int .i64 own, .int .i64 high, .slice A m c]) ∧ Sl w'.heap.size w' A m c l ∧ Below w.heap.size w w'
/-- what a round keeps -/
structure RK (w : World) (own high : Int) (L : List Int) (W : World) : Prop where
  below : Below w.heap.size w W
  res : W.heap[w.heap.size]? = some (.cells #[.int .i64 0, .int .i64 0, .slice none 0 0] 31 (0, 0))
  v : ∃ V, W.heap[w.heap.size + 1]? = some (.cells #[.int .i64 own, .int .i64 high, V] 31 (0, 0)) ∧ W.ownsRow (w.heap.size + 2) 3 1 V L.length (L.map (Value.int .i64))
theorem hcell {W : World} {B : Nat} {c : Array Value} {t : TypeId} {f : Nat × Nat} (h : W.heap[B]? = some (.cells c t f)) (j : Nat) : W.cell? ⟨B, j, none⟩ = c[j]? := by
  unfold World.cell?; rw [h]; rfl
theorem hfrozen {W : World} {B : Nat} {c : Array Value} {t : TypeId} (h : W.heap[B]? = some (.cells c t (0, 0))) (j : Nat) : W.frozen? ⟨B, j, none⟩ = false := by
  unfold World.frozen?; rw [h]; simp
theorem own_setv {W : World} {B n b : Nat} {v : Value} {xs : List Value} (h : W.ownsRow B 3 1 v n xs) (hb : b < B) (o : Nat) (u : Value) : (W.setCell ⟨b, o, none⟩ u).ownsRow B 3 1 v n xs :=
  World.ownsRow.kept h (row := some b) ⟨rfl, rfl, rfl, by simp [World.setCell], fun k hk hkr => Below.heap_setCell W ⟨b, o, none⟩ u k (fun e => hkr (by rw [e]))⟩ (by
    cases hv : v.ownBlock with
    | none => exact .inl rfl
    | some g => exact .inr (fun e => by cases e; have := (World.ownsRow.lt h _ hv).1; omega))
theorem step_drop {own high : Int} {L : List Int} {x : Int} (h : dropB own high x = true ∨ x ∈ L) : stepOf own high L x = L := if_pos h
theorem step_ins {own high : Int} {L : List Int} {x : Int} (h : ¬ (dropB own high x = true ∨ x ∈ L)) : stepOf own high L x = ins L x := if_neg h
theorem _root_.Go.World.ownsRow.base_mono {W : World} {B B' : Nat} {e : TypeId} {size n : Nat} {v : Value} {xs : List Value} (h : W.ownsRow B e size v n xs) (hb : B' ≤ B) : W.ownsRow B' e size v n xs := by
  obtain ⟨h1, h2⟩ := h
  refine ⟨h1, ?_⟩
  rcases h2 with h2 | ⟨g', cap', cur, e, hB, rest⟩
  · exact .inl h2
  · exact .inr ⟨g', cap', cur, e, Nat.le_trans hb hB, rest⟩
set_option maxRecDepth 100000 in
set_option maxHeartbeats 8000000 in
theorem rOf_any (own high : Int) (A : Option Addr) (n c : Nat) (xs : List Int) (w : World) (hs : Ints w.heap.size w A n xs) (hn : n ≤ 900000) :
    Calls Try.prog 11 #[.int .i64 own, .int .i64 high, .slice A n c] w (ROfEnd own high (refOf own high xs) w) := by
  have Hs := Lib.hid hs
  have Hl := Lib.hid hs.1
  clear hs
  go_enter Try.func11, Try.ntmps11
  go_wp2
  go_loopw [8] (fun i wr => ∃ k : Nat, k ≤ n ∧ i = .int .i64 k ∧ RK w own high (refOf own high (xs.take k)) wr) (fun i _ => n - (intOf i).toNat)
  case atStart =>
    refine ⟨0, by omega, rfl, ?_⟩
    rw [List.take_zero]
    refine ⟨((Below.refl _ w).alloc (Nat.le_refl _) _).alloc (by simp) _, ?_, .slice none 0 0, ?_, World.ownsRow_nil _ _ _ _⟩
    · exact (Below.heap_alloc _ _ _ (by simp)).trans (heap_alloc_new w _)
    · have := heap_alloc_new (w.alloc (.cells #[.int .i64 0, .int .i64 0, .slice none 0 0] 31)) (.cells #[.int .i64 own, .int .i64 high, .slice none 0 0] 31)
      rw [World.size_alloc] at this
      exact this
  case round =>
    obtain ⟨k, hk, rfl, hR⟩ := hrel
    obtain ⟨wo, rfl⟩ : ∃ wo : World, wo = wr := ⟨_, rfl⟩
    by_cases hlt : k < n
    case neg =>
      obtain rfl : k = n := by omega
      have hall : xs.take k = xs := List.take_of_length_le (by rw [Hl.out]; exact Nat.le_refl _)
      rw [hall] at hR
      obtain ⟨V, hV, hO⟩ := hR.v
      obtain ⟨A', c', rfl, hSl⟩ := own_sl hO
      have HSl := Lib.hid hSl
      clear hSl
      have HR := Lib.hid hR
      have c0 := hcell hV 0
      have c1 := hcell hV 1
      have c2 := hcell hV 2
      have d0 := hcell hR.res 0
      have d1 := hcell hR.res 1
      have d2 := hcell hR.res 2
      have g0 := hfrozen hR.res 0
      have g1 := hfrozen hR.res 1
      have g2 := hfrozen hR.res 2
      simp only [List.getElem?_toArray, List.getElem?_cons_zero, List.getElem?_cons_succ] at c0 c1 c2 d0 d1 d2
      clear hR hV hall
      have HO := Lib.hid hO
      clear hO
      go_wp2
      have HO2 := Lib.hid (own_setv (own_setv (own_setv HO.out (b := w.heap.size) (by omega) 0 (.int .i64 own)) (b := w.heap.size) (by omega) 1 (.int .i64 high)) (b := w.heap.size) (by omega) 2 (.slice A' (refOf own high xs).length c'))
      have HBE := Lib.hid (((HR.out.below.setCell (p := ⟨w.heap.size, 0, none⟩) (by simp) (.int .i64 own)).setCell (p := ⟨w.heap.size, 1, none⟩) (by simp) (.int .i64 high)).setCell (p := ⟨w.heap.size, 2, none⟩) (by simp) (.slice A' (refOf own high xs).length c'))
      refine bodyPost_ret (v := .agg #[.int .i64 own, .int .i64 high, .slice A' (refOf own high xs).length c']) (by simp [results, Try.results11, go_sem, d0, d1, d2]) rfl ?_
      obtain ⟨A2, c2, e, hS⟩ := own_sl HO2.out
      cases e
      exact ⟨_, _, _, rfl, hS, HBE.out⟩
    case pos =>
      obtain ⟨x, hx⟩ : ∃ x, xs.getD k 0 = x := ⟨_, rfl⟩
      obtain ⟨L, hL⟩ : ∃ L, refOf own high (xs.take k) = L := ⟨_, rfl⟩
      have hLk : L.length ≤ k := by
        rw [← hL]
        have := refOf_len own high (xs.take k) []
        rw [List.length_take] at this
        show (refOf own high (xs.take k)).length ≤ k
        unfold refOf; simp at this ⊢; omega
      have HS : Hid (refOf own high (xs.take (k + 1)) = stepOf own high L x) := by
        show _ = _
        rw [take_succ xs k (by rw [Hl.out]; exact hlt), refOf_snoc, hx, hL]
      rw [hL] at hR
      obtain ⟨g, off, rfl, hg, hc⟩ := (Hs.out.below hR.below).2 (by omega)
      have hck := hc k hlt
      rw [hx] at hck
      have hx1 := index_run g off n c k (k : Int) rfl hlt
      clear hc hx hL
      obtain ⟨V, hV, hO⟩ := hR.v
      obtain ⟨A', c', rfl, hSl⟩ := own_sl hO
      have HSl := Lib.hid hSl
      have HR := Lib.hid hR
      have c2 := hcell hV 2
      simp only [List.getElem?_toArray, List.getElem?_cons_zero, List.getElem?_cons_succ] at c2
      have hz1 : w.heap.size + 1 < wo.heap.size := (Array.getElem?_eq_some_iff.1 hV).1
      have hz2 : ¬ w.heap.size + 1 = wo.heap.size := by omega
      have HV := Lib.hid hV
      have HO := Lib.hid hO
      clear hR hV hO hSl
      by_cases d1 : x < 1
      · have HE : Hid (refOf own high (xs.take (k + 1)) = L) := HS.out.trans (step_drop (.inl (drop_low d1)))
        have e1 : decide (x < 1) = true := decide_eq_true d1
        go_wp2
        go_roundw
        case rel => exact ⟨k + 1, by omega, by go_num, by rw [HE.out]; exact HR.out⟩
        case measure => simp [intOf]; omega
      have e1 : decide (x < 1) = false := decide_eq_false d1
      by_cases d2 : high ≤ x
      · have HE : Hid (refOf own high (xs.take (k + 1)) = L) := HS.out.trans (step_drop (.inl (drop_high d1 d2)))
        have e2 : decide (high ≤ x) = true := decide_eq_true d2
        go_wp2
        go_roundw
        case rel => exact ⟨k + 1, by omega, by go_num, by rw [HE.out]; exact HR.out⟩
        case measure => simp [intOf]; omega
      have e2 : decide (high ≤ x) = false := decide_eq_false d2
      by_cases d3 : x = own
      · have HE : Hid (refOf own high (xs.take (k + 1)) = L) := HS.out.trans (step_drop (.inl (by rw [drop_own d1 d2, beq_iff_eq]; exact d3)))
        have e3 : (x == own) = true := by rw [beq_iff_eq]; exact d3
        clear d3
        go_wp2
        go_roundw
        case rel => exact ⟨k + 1, by omega, by go_num, by rw [HE.out]; exact HR.out⟩
        case measure => simp [intOf]; omega
      have e3 : (x == own) = false := by rw [beq_eq_false_iff_ne]; exact d3
      by_cases d4 : x ∈ L
      · have HE : Hid (refOf own high (xs.take (k + 1)) = L) := HS.out.trans (step_drop (.inr d4))
        have E4 : Hid (decide (x ∈ L) = true) := decide_eq_true d4
        clear d3 d4
        go_wp2_with fail
        refine (has_any A' _ c' L x _ HSl.out.ints (by omega)).mono ?_
        rintro e _ ⟨rfl, rfl⟩
        rw [E4.out]
        go_wp2
        go_roundw
        case rel => exact ⟨k + 1, by omega, by go_num, by rw [HE.out]; exact HR.out⟩
        case measure => simp [intOf]; omega
      have HE : Hid (refOf own high (xs.take (k + 1)) = ins L x) := HS.out.trans (step_ins (fun e => by
        rcases e with e | e
        · rw [drop_own d1 d2] at e; exact d3 (by simpa using e)
        · exact d4 e))
      have E4 : Hid (decide (x ∈ L) = false) := decide_eq_false d4
      clear d3 d4
      go_wp2_with fail
      refine (has_any A' _ c' L x _ HSl.out.ints (by omega)).mono ?_
      rintro e _ ⟨rfl, rfl⟩
      rw [E4.out]
      go_wp2
      go_loop [10] (fun t => ∃ j : Nat, j ≤ L.length ∧ t = .int .i64 j ∧ ∀ i, i < j → L.getD i 0 < x) (fun t => L.length - (intOf t).toNat)
      case atStart => exact ⟨0, by omega, rfl, fun i hi => by omega⟩
      case round =>
        obtain ⟨j, hj, rfl, hall⟩ := hrel
        have Hall := Lib.hid hall
        clear hall
        by_cases hjl : j < L.length
        · obtain ⟨g', off', rfl, hg', hc'⟩ := HSl.out.ints.2 (by omega)
          have hcj := hc' j hjl
          obtain ⟨y, hy⟩ : ∃ y, L.getD j 0 = y := ⟨_, rfl⟩
          rw [hy] at hcj
          have Hy := Lib.hid hy
          have hx2 := index_run g' off' L.length c' j (j : Int) rfl hjl
          have ej : decide (j < L.length) = true := decide_eq_true hjl
          clear hc' hy
          by_cases hyx : y < x
          · have ey : decide (y < x) = true := decide_eq_true hyx
            have Hall2 : Hid (∀ i, i < j + 1 → L.getD i 0 < x) := fun i hi => by
              by_cases e : i = j
              · subst e; rw [Hy.out]; exact hyx
              · exact Hall.out i (by omega)
            go_wp2
            go_round
            case rel => exact ⟨j + 1, by omega, by go_num, Hall2.out⟩
            case measure => simp [intOf]; omega
          · have ey : decide (y < x) = false := decide_eq_false hyx
            have Hsp : Hid (spot L x = j) := spot_eq L x j hj Hall.out (fun _ => by rw [Hy.out]; exact hyx)
            clear hyx Hall Hy
            have Hins : Hid (ins L x = L.take j ++ x :: L.drop j) := by show _ = _; unfold ins; rw [Hsp.out]; simp
            obtain ⟨A2, hsl, hS2⟩ := slice_lo _ _ c' j hj HSl.out.le HSl.out.nil
            obtain ⟨hsh, hS3⟩ := slice_hi _ _ c' j hj HSl.out.le HSl.out.nil
            have b0 : Below wo.heap.size wo (wo.alloc (.cells #[] 3)) := (Below.refl _ _).alloc (Nat.le_refl _) _
            have S2 := Lib.hid (hS2 _ _ _ (HSl.out.ints.later b0))
            have O0 : Hid (OwnL (wo.alloc (.cells #[] 3)) (w.heap.size + 2) (.slice (some ⟨wo.heap.size, 0, none⟩) 0 0) 0 []) := World.ownsRow_lit (base := w.heap.size + 2) (e := 3) (size := 1) wo #[] 0 (by omega) (by omega) rfl
            have HS3 := Lib.hid hS3
            have B0 := Lib.hid b0
            clear b0 hS2 hS3
            go_wp2_with (at_builtin; refine wpList_append_ints rfl (.tmp 59) (.tmp 63) rfl (w.heap.size + 2) _ 0 [] rfl O0.out A2 _ _ (L.drop j) rfl _ S2.out (by omega) (by simp; omega) ?_)
            intro v1 w1 hO1 hg1
            try simp only [Nat.zero_add, List.nil_append] at hO1
            have b1 : Below wo.heap.size wo w1 := B0.out.grown hg1 (by simp) (fun j e => by simp [Value.ownBlock] at e; omega)
            obtain ⟨A1, c1, rfl, hS1⟩ := own_sl hO1
            have HS1 := Lib.hid hS1
            have hc2 := (b1.cell (p := ⟨w.heap.size + 1, 2, none⟩) hz1).trans c2
            have hz3 : w.heap.size + 1 < w1.heap.size := by have := b1.size; omega
            have hz4 : ¬ w.heap.size + 1 = w1.heap.size := by omega
            have b2 : Below w1.heap.size w1 (w1.alloc (.cells #[] 3)) := (Below.refl _ _).alloc (Nat.le_refl _) _
            have S3 := Lib.hid (HS3.out _ _ _ ((HSl.out.ints.later b1).later b2))
            have O1 : Hid (OwnL (w1.alloc (.cells #[] 3)) w1.heap.size (.slice (some ⟨w1.heap.size, 0, none⟩) 0 0) 0 []) := World.ownsRow_lit (base := w1.heap.size) (e := 3) (size := 1) w1 #[] 0 (Nat.le_refl _) (by omega) rfl
            have B1 := Lib.hid b1
            have B2 := Lib.hid b2
            clear hsl hO1 hg1 b1 b2 hS1 c2 O0 S2 B0 HS3
            go_wp2_with (at_builtin; refine wpList_append_ints rfl (.tmp 65) (.tmp 69) rfl w1.heap.size _ 0 [] rfl O1.out _ _ _ (L.take j) rfl _ S3.out (by omega) (by simp) ?_)
            intro v2 w2 hO2 hg2
            try simp only [Nat.zero_add, List.nil_append] at hO2
            have b3 : Below w1.heap.size w1 w2 := B2.out.grown hg2 (by simp) (fun j e => by simp [Value.ownBlock] at e; omega)
            have O2 : Hid (OwnL (w2.alloc (.cells #[.int .i64 x] 3)) w1.heap.size v2 j (L.take j)) := World.ownsRow.alloc hO2 (.cells #[.int .i64 x] 3)
            have S4 : Hid (Sl (w2.alloc (.cells #[.int .i64 x] 3)).heap.size (w2.alloc (.cells #[.int .i64 x] 3)) (some ⟨w2.heap.size, 0, none⟩) 1 1 [x]) := ⟨⟨rfl, fun _ => ⟨w2.heap.size, 0, rfl, by simp, fun i hi => by
              obtain rfl : i = 0 := by omega
              exact hcell (heap_alloc_new w2 _) 0⟩⟩, Nat.le_refl _, fun e => by cases e⟩
            have B3 := Lib.hid b3
            have hs3 := b3.size
            clear hO2 hg2 b3 O1 S3 B2 hsh
            go_wp2_with (at_builtin; refine wpList_append_ints rfl (.tmp 70) (.tmp 72) rfl w1.heap.size _ j (L.take j) rfl O2.out _ _ _ [x] rfl _ S4.out (by omega) (by simp; omega) ?_)
            intro v3 w3 hO3 hg3
            have b4 : Below w1.heap.size w1 w3 := (B3.out.alloc hs3 _).grown hg3 (by simp; omega) (fun g e => (World.ownsRow.lt O2.out g e).1)
            have HO3 := Lib.hid hO3
            have S5 := Lib.hid (⟨HS1.out.ints.later b4, HS1.out.le, HS1.out.nil⟩ : Sl w3.heap.size w3 A1 _ c1 (L.drop j))
            have B4 := Lib.hid b4
            have hs4 := b4.size
            clear hO3 hg3 b4 O2 S4 HS1 B3
            go_wp2_with (at_builtin; refine wpList_append_ints rfl (.tmp 73) (.tmp 74) rfl w1.heap.size _ (j + 1) (L.take j ++ [x]) rfl HO3.out _ _ _ (L.drop j) rfl _ S5.out (by omega) (by omega) ?_)
            intro v4 w4 hO4 hg4
            have b5 : Below w1.heap.size w1 w4 := B4.out.grown hg4 hs4 (fun g e => (World.ownsRow.lt HO3.out g e).1)
            have hb4 : Below wo.heap.size wo w4 := stepB B1.out b5
            rw [← Hins.out] at hO4
            have hlen : j + 1 + (L.length - j) = (ins L x).length := by rw [ins_len]; omega
            rw [hlen] at hO4
            obtain ⟨A4, c4, rfl, hS4⟩ := own_sl hO4
            have HV4 := Lib.hid ((hb4.block _ hz1).trans HV.out)
            have z2 := hcell HV4.out 2
            have f2 := hfrozen HV4.out 2
            simp only [List.getElem?_toArray, List.getElem?_cons_zero, List.getElem?_cons_succ] at z2
            have HRK : Hid (RK w own high (ins L x) (w4.setCell ⟨w.heap.size + 1, 2, none⟩ (.slice A4 (ins L x).length c4))) := ⟨((stepB HR.out.below hb4).setCell (p := ⟨w.heap.size + 1, 2, none⟩) (by simp) _),
              (Below.heap_setCell w4 ⟨w.heap.size + 1, 2, none⟩ _ _ (by simp)).trans ((hb4.block _ (by omega)).trans HR.out.res),
              .slice A4 (ins L x).length c4, hset HV4.out _, own_setv (World.ownsRow.base_mono hO4 (by omega)) (by omega) _ _⟩
            clear hO4 hg4 b5 hb4 hlen hS4 HO3 S5 B4 B1
            go_wp2
            go_roundw
            case rel => exact ⟨k + 1, by omega, by go_num, by rw [HE.out]; exact HRK.out⟩
            case measure => simp [intOf]; omega
        · have ej : decide (j < L.length) = false := decide_eq_false hjl
          have Hsp : Hid (spot L x = j) := spot_eq L x j hj Hall.out (fun h => absurd h hjl)
          clear Hall
          have Hins : Hid (ins L x = L.take j ++ x :: L.drop j) := by show _ = _; unfold ins; rw [Hsp.out]; simp
          obtain ⟨A2, hsl, hS2⟩ := slice_lo _ _ c' j hj HSl.out.le HSl.out.nil
          obtain ⟨hsh, hS3⟩ := slice_hi _ _ c' j hj HSl.out.le HSl.out.nil
          have b0 : Below wo.heap.size wo (wo.alloc (.cells #[] 3)) := (Below.refl _ _).alloc (Nat.le_refl _) _
          have S2 := Lib.hid (hS2 _ _ _ (HSl.out.ints.later b0))
          have O0 : Hid (OwnL (wo.alloc (.cells #[] 3)) (w.heap.size + 2) (.slice (some ⟨wo.heap.size, 0, none⟩) 0 0) 0 []) := World.ownsRow_lit (base := w.heap.size + 2) (e := 3) (size := 1) wo #[] 0 (by omega) (by omega) rfl
          have HS3 := Lib.hid hS3
          have B0 := Lib.hid b0
          clear b0 hS2 hS3
          go_wp2_with (at_builtin; refine wpList_append_ints rfl (.tmp 59) (.tmp 63) rfl (w.heap.size + 2) _ 0 [] rfl O0.out A2 _ _ (L.drop j) rfl _ S2.out (by omega) (by simp; omega) ?_)
          intro v1 w1 hO1 hg1
          try simp only [Nat.zero_add, List.nil_append] at hO1
          have b1 : Below wo.heap.size wo w1 := B0.out.grown hg1 (by simp) (fun j e => by simp [Value.ownBlock] at e; omega)
          obtain ⟨A1, c1, rfl, hS1⟩ := own_sl hO1
          have HS1 := Lib.hid hS1
          have hc2 := (b1.cell (p := ⟨w.heap.size + 1, 2, none⟩) hz1).trans c2
          have hz3 : w.heap.size + 1 < w1.heap.size := by have := b1.size; omega
          have hz4 : ¬ w.heap.size + 1 = w1.heap.size := by omega
          have b2 : Below w1.heap.size w1 (w1.alloc (.cells #[] 3)) := (Below.refl _ _).alloc (Nat.le_refl _) _
          have S3 := Lib.hid (HS3.out _ _ _ ((HSl.out.ints.later b1).later b2))
          have O1 : Hid (OwnL (w1.alloc (.cells #[] 3)) w1.heap.size (.slice (some ⟨w1.heap.size, 0, none⟩) 0 0) 0 []) := World.ownsRow_lit (base := w1.heap.size) (e := 3) (size := 1) w1 #[] 0 (Nat.le_refl _) (by omega) rfl
          have B1 := Lib.hid b1
          have B2 := Lib.hid b2
          clear hsl hO1 hg1 b1 b2 hS1 c2 O0 S2 B0 HS3
          go_wp2_with (at_builtin; refine wpList_append_ints rfl (.tmp 65) (.tmp 69) rfl w1.heap.size _ 0 [] rfl O1.out _ _ _ (L.take j) rfl _ S3.out (by omega) (by simp) ?_)
          intro v2 w2 hO2 hg2
          try simp only [Nat.zero_add, List.nil_append] at hO2
          have b3 : Below w1.heap.size w1 w2 := B2.out.grown hg2 (by simp) (fun j e => by simp [Value.ownBlock] at e; omega)
          have O2 : Hid (OwnL (w2.alloc (.cells #[.int .i64 x] 3)) w1.heap.size v2 j (L.take j)) := World.ownsRow.alloc hO2 (.cells #[.int .i64 x] 3)
          have S4 : Hid (Sl (w2.alloc (.cells #[.int .i64 x] 3)).heap.size (w2.alloc (.cells #[.int .i64 x] 3)) (some ⟨w2.heap.size, 0, none⟩) 1 1 [x]) := ⟨⟨rfl, fun _ => ⟨w2.heap.size, 0, rfl, by simp, fun i hi => by
            obtain rfl : i = 0 := by omega
            exact hcell (heap_alloc_new w2 _) 0⟩⟩, Nat.le_refl _, fun e => by cases e⟩
          have B3 := Lib.hid b3
          have hs3 := b3.size
          clear hO2 hg2 b3 O1 S3 B2 hsh
          go_wp2_with (at_builtin; refine wpList_append_ints rfl (.tmp 70) (.tmp 72) rfl w1.heap.size _ j (L.take j) rfl O2.out _ _ _ [x] rfl _ S4.out (by omega) (by simp; omega) ?_)
          intro v3 w3 hO3 hg3
          have b4 : Below w1.heap.size w1 w3 := (B3.out.alloc hs3 _).grown hg3 (by simp; omega) (fun g e => (World.ownsRow.lt O2.out g e).1)
          have HO3 := Lib.hid hO3
          have S5 := Lib.hid (⟨HS1.out.ints.later b4, HS1.out.le, HS1.out.nil⟩ : Sl w3.heap.size w3 A1 _ c1 (L.drop j))
          have B4 := Lib.hid b4
          have hs4 := b4.size
          clear hO3 hg3 b4 O2 S4 HS1 B3
          go_wp2_with (at_builtin; refine wpList_append_ints rfl (.tmp 73) (.tmp 74) rfl w1.heap.size _ (j + 1) (L.take j ++ [x]) rfl HO3.out _ _ _ (L.drop j) rfl _ S5.out (by omega) (by omega) ?_)
          intro v4 w4 hO4 hg4
          have b5 : Below w1.heap.size w1 w4 := B4.out.grown hg4 hs4 (fun g e => (World.ownsRow.lt HO3.out g e).1)
          have hb4 : Below wo.heap.size wo w4 := stepB B1.out b5
          rw [← Hins.out] at hO4
          have hlen : j + 1 + (L.length - j) = (ins L x).length := by rw [ins_len]; omega
          rw [hlen] at hO4
          obtain ⟨A4, c4, rfl, hS4⟩ := own_sl hO4
          have HV4 := Lib.hid ((hb4.block _ hz1).trans HV.out)
          have z2 := hcell HV4.out 2
          have f2 := hfrozen HV4.out 2
          simp only [List.getElem?_toArray, List.getElem?_cons_zero, List.getElem?_cons_succ] at z2
          have HRK : Hid (RK w own high (ins L x) (w4.setCell ⟨w.heap.size + 1, 2, none⟩ (.slice A4 (ins L x).length c4))) := ⟨((stepB HR.out.below hb4).setCell (p := ⟨w.heap.size + 1, 2, none⟩) (by simp) _),
            (Below.heap_setCell w4 ⟨w.heap.size + 1, 2, none⟩ _ _ (by simp)).trans ((hb4.block _ (by omega)).trans HR.out.res),
            .slice A4 (ins L x).length c4, hset HV4.out _, own_setv (World.ownsRow.base_mono hO4 (by omega)) (by omega) _ _⟩
          clear hO4 hg4 b5 hb4 hlen hS4 HO3 S5 B4 B1
          go_wp2
          go_roundw
          case rel => exact ⟨k + 1, by omega, by go_num, by rw [HE.out]; exact HRK.out⟩
          case measure => simp [intOf]; omega
end Go.Proofs.Ythicofdbcldpaaa
