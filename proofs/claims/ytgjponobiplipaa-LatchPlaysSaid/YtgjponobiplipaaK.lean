/- The examples. -/
import Derived.Test.YtgjponobiplipaaG
namespace Go.Proofs.Ytgjponobiplipaa
open Go.ChangeShapes Go.WideShapes Go.ChangeAt Go.RowKit Go.Maps
set_option linter.unusedVariables false
set_option linter.unusedSimpArgs false

abbrev n17 : Int := 18446744073709551623
abbrev n09 : Int := 9
/-- what the examples have: the latches, and a name's block -/
structure St (n₀ : Nat) (W : World) (p b : Nat) (C : List Ct) (gn : Nat) : Prop where
  la : LaAt W n₀ p b C
  nb : Blk W gn #[.int .u8 1, .int .u64 7] 27
abbrev SA5 (gn : Nat) (W : World) : Prop := W.cell? ⟨gn, 0, none⟩ = some (.int .u8 1) ∧ W.cell? ⟨gn, 1, none⟩ = some (.int .u64 7)
theorem St.sa {n₀ : Nat} {W : World} {p b gn : Nat} {C : List Ct} (h : St n₀ W p b C gn) : SA5 gn W := by
  have c0 := h.nb.cell 0
  have c1 := h.nb.cell 1
  exact ⟨by simpa using c0, by simpa using c1⟩
theorem St.drewN {n₀ : Nat} {W : World} {p b gn : Nat} {C : List Ct} (h : St n₀ W p b C gn) (n : Nat) : St n₀ (W.drewN n) p b C gn := ⟨h.la.later (below_drewN (Below.refl _ _) n), h.nb.later (below_drewN (Below.refl _ _) n)⟩
theorem St.step {n₀ : Nat} {W W' : World} {p b gn : Nat} {C D : List Ct} (h : St n₀ W p b C gn) (ho : LaAt W' n₀ p b D) (hg : W.grownBy W' (some b)) : St n₀ W' p b D gn := ⟨ho, h.nb.grown hg (fun e => by
  have e2 : gn = b := Option.some.inj e
  obtain ⟨es, clock, hm, _⟩ := h.la.own.2
  have h2 : W.heap[gn]? = some (.cells #[.int .u8 1, .int .u64 7] 27 (0, 0)) := h.nb
  rw [e2, hm] at h2; cases h2)⟩
theorem St.below {w W W' : World} {p b gn : Nat} {C : List Ct} (h : St w.heap.size W p b C gn) (hb : Below w.heap.size w W) (hg : W.grownBy W' (some b)) : Below w.heap.size w W' := h.la.below hb hg
theorem rg17 : rg n17 := by unfold rg; decide
theorem rg09 : rg n09 := by unfold rg; decide
/-- a Try of the examples, of known data -/
theorem try_c {n₀ : Nat} {W : World} {w : World} {p b gn : Nat} (C D : List Ct) (t : Int) (r : Bool) (hD : tryS C n17 t = D) (hr : tryB C n17 t = r) (ht : (Lit.int .i64 t).wf = true) (hl : C.length < 10) (h : St w.heap.size W p b C gn ∧ Below w.heap.size w W) :
    Calls Try.prog 11 #[.pointer (some ⟨p, 0, none⟩), .agg #[.int .u8 1, .int .u64 7], .int .i64 t] W fun x w' => x = .returned (.bool r) ∧ St w.heap.size w' p b D gn ∧ Below w.heap.size w w' :=
  (try_any w.heap.size p b C n17 t W h.1.la rg17 ht (by omega)).mono (fun x w' ⟨h1, h2, h3⟩ => by rw [hD] at h2; rw [hr] at h1; exact ⟨h1, h.1.step h2 h3, h.1.below h.2 h3⟩)
theorem drop_c {W : World} {w : World} {p b gn : Nat} (C D : List Ct) (t : Int) (r : Bool) (hD : dropS C n17 t = D) (hr : dropB C n17 t = r) (h : St w.heap.size W p b C gn ∧ Below w.heap.size w W) :
    Calls Try.prog 12 #[.pointer (some ⟨p, 0, none⟩), .agg #[.int .u8 1, .int .u64 7], .int .i64 t] W fun x w' => x = .returned (.bool r) ∧ St w.heap.size w' p b D gn ∧ Below w.heap.size w w' :=
  (drop_any w.heap.size p b C n17 t W h.1.la rg17).mono (fun x w' ⟨h1, h2, h3⟩ => by rw [hD] at h2; rw [hr] at h1; exact ⟨h1, h.1.step h2 h3, h.1.below h.2 h3⟩)
theorem two_drewN {w W : World} {p b gn : Nat} {C : List Ct} (h : St w.heap.size W p b C gn ∧ Below w.heap.size w W) (n : Nat) : St w.heap.size (W.drewN n) p b C gn ∧ Below w.heap.size w (W.drewN n) := ⟨h.1.drewN n, below_drewN h.2 n⟩
theorem lit_two (w6 : World) : NSl (w6.alloc (.cells #[.int .u8 0, .int .u64 9, .int .u8 1, .int .u64 7] 37)) w6.heap.size (some ⟨w6.heap.size, 0, none⟩) [n09, n17] := fun _ => by
  have hB := Blk.new w6 #[.int .u8 0, .int .u64 9, .int .u8 1, .int .u64 7] 37
  refine ⟨_, rfl, Nat.le_refl _, hB.lt, fun j hj => ?_⟩
  have hj2 : j = 0 ∨ j = 1 := by simp at hj; omega
  rcases hj2 with rfl | rfl
  · exact ⟨hB.cell _, hB.cell _, hB.frozen _, hB.frozen _⟩
  · exact ⟨hB.cell _, hB.cell _, hB.frozen _, hB.frozen _⟩
set_option maxRecDepth 100000 in
set_option maxHeartbeats 4000000 in
theorem awake_any (w : World) : Calls Try.prog 10 #[] w fun x w' => x = .returned (.bool true) ∧ Below w.heap.size w w' := by
  go_enter Try.func10, Try.ntmps10
  go_wp2_with fail
  refine (new_any w).mono ?_
  rintro x w1 ⟨rfl, ho, hb⟩
  have hbl := (Below.refl w1.heap.size w1).alloc (Nat.le_refl _) (.cells #[.int .u8 1, .int .u64 7] 27)
  have H0 : Hid (St w.heap.size (w1.alloc (.cells #[.int .u8 1, .int .u64 7] 27)) (w.heap.size + 1) w.heap.size [] w1.heap.size ∧ Below w.heap.size w (w1.alloc (.cells #[.int .u8 1, .int .u64 7] 27))) := ⟨⟨ho.later hbl, Blk.new _ _ _⟩, stepB hb hbl⟩
  clear ho hb hbl
  go_upto_region 3 with (fail)
  generalize w1.alloc (.cells #[.int .u8 1, .int .u64 7] 27) = w2 at *
  generalize w1.heap.size = gn at *
  have T1 : Hid (∀ W, St w.heap.size W (w.heap.size + 1) w.heap.size [] gn ∧ Below w.heap.size w W → Calls Try.prog 11 #[.pointer (some ⟨w.heap.size + 1, 0, none⟩), .agg #[.int .u8 1, .int .u64 7], .int .i64 2] W fun x w' => x = .returned (.bool true) ∧ St w.heap.size w' (w.heap.size + 1) w.heap.size [(n17, 2)] gn ∧ Below w.heap.size w w') := fun W h => try_c (n₀ := 0) [] [(n17, 2)] 2 true (by decide +kernel) (by decide +kernel) (by decide) (by decide) h
  have T2 : Hid (∀ W, St w.heap.size W (w.heap.size + 1) w.heap.size [(n17, 2)] gn ∧ Below w.heap.size w W → Calls Try.prog 11 #[.pointer (some ⟨w.heap.size + 1, 0, none⟩), .agg #[.int .u8 1, .int .u64 7], .int .i64 3] W fun x w' => x = .returned (.bool false) ∧ St w.heap.size w' (w.heap.size + 1) w.heap.size [(n17, 2)] gn ∧ Below w.heap.size w w') := fun W h => try_c (n₀ := 0) [(n17, 2)] [(n17, 2)] 3 false (by decide +kernel) (by decide +kernel) (by decide) (by decide) h
  have T3 : Hid (∀ W, St w.heap.size W (w.heap.size + 1) w.heap.size [(n17, 2)] gn ∧ Below w.heap.size w W → Calls Try.prog 11 #[.pointer (some ⟨w.heap.size + 1, 0, none⟩), .agg #[.int .u8 1, .int .u64 7], .int .i64 2] W fun x w' => x = .returned (.bool true) ∧ St w.heap.size w' (w.heap.size + 1) w.heap.size [(n17, 2)] gn ∧ Below w.heap.size w w') := fun W h => try_c (n₀ := 0) [(n17, 2)] [(n17, 2)] 2 true (by decide +kernel) (by decide +kernel) (by decide) (by decide) h
  have T4 : Hid (∀ W, St w.heap.size W (w.heap.size + 1) w.heap.size [(n17, 2)] gn ∧ Below w.heap.size w W → Calls Try.prog 12 #[.pointer (some ⟨w.heap.size + 1, 0, none⟩), .agg #[.int .u8 1, .int .u64 7], .int .i64 3] W fun x w' => x = .returned (.bool false) ∧ St w.heap.size w' (w.heap.size + 1) w.heap.size [(n17, 2)] gn ∧ Below w.heap.size w w') := fun W h => drop_c [(n17, 2)] [(n17, 2)] 3 false (by decide +kernel) (by decide +kernel) h
  have T5 : Hid (∀ W, St w.heap.size W (w.heap.size + 1) w.heap.size [(n17, 2)] gn ∧ Below w.heap.size w W → Calls Try.prog 12 #[.pointer (some ⟨w.heap.size + 1, 0, none⟩), .agg #[.int .u8 1, .int .u64 7], .int .i64 2] W fun x w' => x = .returned (.bool true) ∧ St w.heap.size w' (w.heap.size + 1) w.heap.size [] gn ∧ Below w.heap.size w w') := fun W h => drop_c [(n17, 2)] [] 2 true (by decide +kernel) (by decide +kernel) h
  have T6 : Hid (∀ W, St w.heap.size W (w.heap.size + 1) w.heap.size [] gn ∧ Below w.heap.size w W → Calls Try.prog 11 #[.pointer (some ⟨w.heap.size + 1, 0, none⟩), .agg #[.int .u8 1, .int .u64 7], .int .i64 3] W fun x w' => x = .returned (.bool true) ∧ St w.heap.size w' (w.heap.size + 1) w.heap.size [(n17, 3)] gn ∧ Below w.heap.size w w') := fun W h => try_c (n₀ := 0) [] [(n17, 3)] 3 true (by decide +kernel) (by decide +kernel) (by decide) (by decide) h
  generalize w.heap.size + 1 = p at *
  have h0 := H0.out
  have h1 := two_drewN h0 1
  have K0 : Hid (SA5 gn w2.drew) := h1.1.sa
  go_cut [3, 4, 5, 6, 7, 8] (fun a b' c d e f wx => a = .bool true ∧ b' = .bool false ∧ c = .bool true ∧ d = .bool false ∧ e = .bool true ∧ f = .bool true ∧ St w.heap.size wx p w.heap.size [(n17, 3)] gn ∧ Below w.heap.size w wx)
  case first =>
    go_region_held3 (SA5 gn) (first | assumption | exact K0.out | exact (And.left (by assumption) : St _ _ _ _ _ _).sa) (first
      | (go_at_call_of 11 (Value.int .i64 2); first
          | (refine (T1.out _ (by first | assumption | exact two_drewN (by assumption) _)).mono ?_; rintro x wz ⟨rfl, hA⟩; have hz := hA.1.sa)
          | (refine (T3.out _ (by first | assumption | exact two_drewN (by assumption) _)).mono ?_; rintro x wz ⟨rfl, hA⟩; have hz := hA.1.sa))
      | (go_at_call 11; first
          | (refine (T2.out _ (by first | assumption | exact two_drewN (by assumption) _)).mono ?_; rintro x wz ⟨rfl, hA⟩; have hz := hA.1.sa)
          | (refine (T6.out _ (by first | assumption | exact two_drewN (by assumption) _)).mono ?_; rintro x wz ⟨rfl, hA⟩; have hz := hA.1.sa))
      | (go_at_call_of 12 (Value.int .i64 2); refine (T5.out _ (by first | assumption | exact two_drewN (by assumption) _)).mono ?_; rintro x wz ⟨rfl, hA⟩; have hz := hA.1.sa)
      | (go_at_call 12; refine (T4.out _ (by first | assumption | exact two_drewN (by assumption) _)).mono ?_; rintro x wz ⟨rfl, hA⟩; have hz := hA.1.sa))
    all_goals (
      go_wp2_with fail
      go_meet
      exact ⟨rfl, rfl, rfl, rfl, rfl, rfl, by first | assumption | exact two_drewN (by assumption) _⟩)
  case rest =>
    obtain ⟨rfl, rfl, rfl, rfl, rfl, rfl, hA⟩ := hcut
    obtain ⟨w3, rfl⟩ : ∃ w3 : World, w3 = wc := ⟨_, rfl⟩
    have L3 := Lib.hid hA.1.la
    have HB3 := Lib.hid hA.2
    clear hA H0 T1 T2 T3 T4 T5 T6 h0 h1 K0
    go_wp2_with fail
    refine (try_any w.heap.size p w.heap.size [(n17, 3)] n09 3 _ L3.out rg09 (by decide) (by decide)).mono ?_
    rintro x w4 ⟨rfl, ho, hg⟩
    have HB4 := Lib.hid (L3.out.below HB3.out hg)
    rw [show tryS [(n17, 3)] n09 3 = [(n09, 3), (n17, 3)] from by decide +kernel] at ho
    rw [show tryB [(n17, 3)] n09 3 = true from by decide +kernel]
    have L4 := Lib.hid ho
    clear ho hg L3 HB3
    go_wp2_with fail
    refine (held_any w.heap.size p w.heap.size [(n09, 3), (n17, 3)] 3 _ L4.out (by decide)).mono ?_
    rintro x w5 ⟨A5, c5, rfl, hsl, hb⟩
    rw [show heldC [(n09, 3), (n17, 3)] 3 = [n09, n17] from by decide +kernel] at hsl ⊢
    have HS5 := Lib.hid hsl
    have HB5 := Lib.hid (stepB HB4.out hb)
    clear hsl hb L4 HB4
    go_wp2_with fail
    refine (names_any _ A5 c5 [n09, n17] _ HS5.out (by decide)).mono ?_
    rintro x w6 ⟨A6, c6, rfl, hsl, hb⟩
    have hb7 : Below w6.heap.size w6 (w6.alloc (.cells #[.int .u8 0, .int .u64 9, .int .u8 1, .int .u64 7] 37)) := (Below.refl _ _).alloc (Nat.le_refl _) _
    have HS7 := Lib.hid (hsl.later hb7)
    have HB7 := Lib.hid (stepB (stepB HB5.out hb) hb7)
    have HL7 : Hid (NSl (w6.alloc (.cells #[.int .u8 0, .int .u64 9, .int .u8 1, .int .u64 7] 37)) w6.heap.size (some ⟨w6.heap.size, 0, none⟩) [n09, n17]) := lit_two w6
    clear hsl hb hb7 HS5 HB5
    go_wp2_with fail
    refine (same_names _ _ A6 (some ⟨w6.heap.size, 0, none⟩) c6 2 [n09, n17] _ HS7.out HL7.out (by decide)).mono ?_
    rintro x w8 ⟨rfl, hb⟩
    have HB8 := Lib.hid (stepB HB7.out hb)
    clear hb HB7 HS7 HL7
    go_wp2
    go_ret
    exact ⟨rfl, HB8.out⟩
end Go.Proofs.Ytgjponobiplipaa
