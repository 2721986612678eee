/- Held. -/
import Derived.Test.YtgjponobiplipaaD
namespace Go.Proofs.Ytgjponobiplipaa
open Go.ChangeShapes Go.WideShapes Go.ChangeAt Go.RowKit Go.Maps
set_option linter.unusedVariables false
set_option linter.unusedSimpArgs false

open Go.Sort Go.Lib Go.Shelf
/-- what a task holds; what has come of it -/
def heldC (C : List Ct) (t : Int) : List Int := (C.filter fun p => decide (p.2 = t)).map (·.1)
def comeH (C : List Ct) (t : Int) (left : Lit → Bool) : List Int := (C.filter fun p => !left (kl p.1) && decide (p.2 = t)).map (·.1)
theorem come_start {C : List Ct} {t : Int} (h : Rg C) : comeH C t (Maps.has (dm C)) = [] := by
  unfold comeH
  rw [List.filter_eq_nil_iff.2 (fun p hp => by
    have : Maps.has (dm C) (kl p.1) = true := by
      rw [has_dm (h p hp) h]; exact List.any_eq_true.2 ⟨p, hp, decide_eq_true rfl⟩
    rw [this]; simp)]
  rfl
theorem come_end {C : List Ct} {t : Int} {left : Lit → Bool} (h : ∀ kl, left kl = false) : comeH C t left = heldC C t := by
  unfold comeH heldC
  congr 1
  refine List.filter_congr (fun p _ => by rw [h]; simp)
theorem come_skip : ∀ {C : List Ct} {t x c : Int} {left : Lit → Bool}, Rg C → rg x → C.Pairwise (fun p q => p.1 < q.1) → (x, c) ∈ C → c ≠ t → comeH C t (fun z => left z && !z.sameKey (kl x)) = comeH C t left
  | C, t, x, c, left, hr, hx, hu, hm, hc => by
    unfold comeH
    congr 1
    refine List.filter_congr (fun p hp => ?_)
    simp only [same_kl (hr p hp) hx]
    by_cases e : p.1 = x
    · have := (of_is hu hp).2
      have h2 := (of_is hu hm).2
      simp only at h2
      rw [e, h2] at this
      rw [← this, decide_eq_false hc]; simp
    · simp [e]
theorem come_step : ∀ {C : List Ct} {t x : Int} {left : Lit → Bool}, Rg C → rg x → C.Pairwise (fun p q => p.1 < q.1) → left (kl x) = true → (x, t) ∈ C → (comeH C t (fun z => left z && !z.sameKey (kl x))).Perm (comeH C t left ++ [x])
  | [], _, _, _, _, _, _, _, h => by cases h
  | p :: C, t, x, left, hr, hx, hu, hl, h => by
    obtain ⟨h1, h2⟩ := List.pairwise_cons.1 hu
    unfold comeH
    simp only [List.filter_cons, same_kl hr.head hx]
    rcases List.mem_cons.1 h with rfl | h
    · have e : (C.filter fun p => !(left (kl p.1) && !(kl p.1).sameKey (kl x)) && decide (p.2 = t)) = (C.filter fun p => !left (kl p.1) && decide (p.2 = t)) := by
        refine List.filter_congr (fun q hq => ?_)
        have := h1 q hq
        rw [same_kl (hr.tail q hq) hx, decide_eq_false (show ¬ q.1 = x from fun e => by simp only at this; omega)]
        simp
      simp only [decide_true, Bool.not_true, Bool.and_false, Bool.not_false, Bool.and_true, if_true, hl, Bool.false_eq_true, if_false, List.map_cons]
      rw [e]
      exact (List.perm_append_singleton _ _).symm
    · have ih := come_step (C := C) (t := t) (left := left) hr.tail hx h2 hl h
      unfold comeH at ih
      have hne : ¬ p.1 = x := fun e => by have := h1 _ h; simp only at this; omega
      rw [decide_eq_false hne]
      simp only [Bool.not_false, Bool.and_true]
      split
      · exact ih.cons p.1
      · exact ih
theorem held_up {C : List Ct} (h : Ok C) (t : Int) : (heldC C t).Pairwise (fun p q => p < q) := by
  unfold heldC
  rw [List.pairwise_map]
  exact h.up.filter _
theorem rising_eq : ∀ {C D : List Int}, C.Pairwise (fun p q => p < q) → D.Pairwise (fun p q => ¬ q < p) → D.Perm C → D = C
  | [], D, _, _, h => h.eq_nil
  | p :: C, D, hc, hd, h => by
    obtain ⟨h1, h2⟩ := List.pairwise_cons.1 hc
    cases D with
    | nil => exact absurd h.symm.eq_nil (by simp)
    | cons q D =>
      obtain ⟨g1, g2⟩ := List.pairwise_cons.1 hd
      have hq : q ∈ p :: C := h.mem_iff.1 (List.mem_cons_self ..)
      have hp : p ∈ q :: D := h.mem_iff.2 (List.mem_cons_self ..)
      have e : q = p := by
        rcases List.mem_cons.1 hq with e | hq
        · exact e
        · rcases List.mem_cons.1 hp with e | hp
          · exact e.symm
          · exact absurd (h1 q hq) (g1 p hp)
      subst e
      rw [rising_eq h2 g2 (List.Perm.cons_inv h)]
theorem held_len (C : List Ct) (t : Int) : (heldC C t).length ≤ C.length := by unfold heldC; rw [List.length_map]; exact List.length_filter_le _ _
theorem come_len (C : List Ct) (t : Int) (left : Lit → Bool) : (comeH C t left).length ≤ C.length := by unfold comeH; rw [List.length_map]; exact List.length_filter_le _ _
/-- every key is a name -/
theorem key_inv (key : Value) (l : Lit) (h : keyOf Try.prog 27 key = some l) : ∃ x : { z : Int // rg z }, key = nmv x.1 := by
  obtain ⟨f0, f1, hu, t0, t1, o0, o1, n0, n1⟩ := u27
  unfold keyOf at h
  simp only [hu] at h
  split at h
  · rename_i hf
    simp only [Bool.and_eq_true] at hf
    simp only [Option.map_eq_some_iff] at h
    obtain ⟨L, hL, _⟩ := h
    have hform := hf.2
    cases key <;> simp [Value.formed, hu, cells27] at hform
    rename_i xs
    obtain ⟨xs⟩ := xs
    match xs, hform with
    | [a, b], _ =>
      obtain ⟨m, hm⟩ := tsize
      rw [hm] at hL
      unfold Program.keyLits at hL
      simp only [hu, Value.cells] at hL
      rw [if_pos ⟨by rw [cells27]; rfl, by simp [n0, n1]⟩] at hL
      simp only [Option.map_eq_some_iff] at hL
      obtain ⟨Ls, hx, _⟩ := hL
      rw [List.mapM_cons, List.mapM_cons, List.mapM_nil] at hx
      simp only [bind, Option.bind_eq_some_iff, pure, Option.some.injEq] at hx
      obtain ⟨la, hla, _, ⟨lb, hlb, _, _, _⟩, _⟩ := hx
      simp [t0, t1, o0, o1, cells5, cells25] at hla hlb
      have ha : ∃ q, a = .int .u8 q ∧ (Lit.int .u8 q).wf = true := by
        unfold Program.keyLits at hla
        simp only [Try.underlying5] at hla
        cases a <;> simp at hla
        obtain ⟨⟨rfl, hw⟩, _⟩ := hla
        exact ⟨_, rfl, hw⟩
      have hb : ∃ q, b = .int .u64 q ∧ (Lit.int .u64 q).wf = true := by
        unfold Program.keyLits at hlb
        simp only [Try.underlying25] at hlb
        cases b <;> simp at hlb
        obtain ⟨⟨rfl, hw⟩, _⟩ := hlb
        exact ⟨_, rfl, hw⟩
      obtain ⟨x, rfl, hx⟩ := ha
      obtain ⟨y, rfl, hy⟩ := hb
      simp only [Lit.wf, Bool.and_eq_true, decide_eq_true_eq] at hx hy
      have x0 : (0 : Int) ≤ x := hx.1
      have x1 : x ≤ (255 : Int) := hx.2
      have y0 : (0 : Int) ≤ y := hy.1
      have y1 : y ≤ (18446744073709551615 : Int) := hy.2
      refine ⟨⟨x * 18446744073709551616 + y, by unfold rg; omega⟩, ?_⟩
      unfold nmv
      rw [show (x * 18446744073709551616 + y) / 18446744073709551616 = x from by omega, show (x * 18446744073709551616 + y) % 18446744073709551616 = y from by omega]
  · cases h
def HeldEnd (L : List Int) (w : World) (x : Ending) (w' : World) : Prop := ∃ A c, x = .returned (.slice A L.length c) ∧ NSl w' w.heap.size A L ∧ RowKit.Below w.heap.size w w'
set_option maxRecDepth 100000 in
set_option maxHeartbeats 4000000 in
theorem held_any (B p b : Nat) (C : List Ct) (t : Int) (w : World) (h : LaAt w B p b C) (hlen : C.length ≤ 1000) : Calls Try.prog 13 #[.pointer (some ⟨p, 0, none⟩), .int .i64 t] w (HeldEnd (heldC C t) w) := by
  have k0 := h.blk.cell 0
  simp only [List.getElem?_toArray, List.getElem?_cons_zero] at k0
  have HM := Lib.hid h.own.2
  have HOK := Lib.hid h.ok
  obtain ⟨i0, hi, hz0, hz1, hz2⟩ := info_parts n27info
  clear h
  go_enter Try.func13, Try.ntmps13
  go_wp2_with (first
    | (at_range; refine wpList_range_own _ rfl _ 54 rfl 27 3 law27 Try.underlying54 _ b C.length _ rfl HM.out ?_; intro w0 hrg0 hg0 hs0)
    | go_in)
  go_frame
  have hB0 : RowKit.Below w.heap.size w w0 := (Below.refl _ _).grown hg0 (Nat.le_refl _) (fun k e => by cases e)
  go_loopw [5] (fun v wr => ∃ (left : Lit → Bool) (cnt : Nat) (xs : List Int), wr.ranges Try.prog 27 R3 b w.heap.size C.length (dm C) left cnt ∧ xs.Perm (comeH C t left) ∧ NOwn 27 wr w.heap.size v xs ∧ (xs = [] → v = .slice none 0 0) ∧ RowKit.Below w.heap.size w wr)
    (fun _ wr => wr.rangeLeft b w.heap.size)
  case atStart => exact ⟨_, _, [], hrg0, by rw [come_start HOK.out.rgs], NOwn.nil _ _ _, fun _ => rfl, hB0⟩
  case round =>
    obtain ⟨left, cnt, xs, hrg, hpm, hco, hnil, hb⟩ := hrel
    have HCO := Lib.hid hco
    have HPM := Lib.hid hpm
    have HNIL := Lib.hid hnil
    have HB := Lib.hid hb
    obtain ⟨A, c, rfl, hA⟩ := hco.sl
    have hxl : xs.length ≤ 1000 := by
      have h1 := hpm.length_eq
      have h2 := come_len C t left
      omega
    have HA := Lib.hid hA
    clear hrg0 hg0 hs0 hB0 k0 hpm hco hnil hb hA
    go_wp2_with (first
      | (at_next; refine wpList_next_ranges (α := { z : Int // rg z }) (β := Int) _ rfl _ rfl 27 law27 R3 (fun x => nmv x.1) (fun c => .int .i64 c) key_inv (fun v y hv => by obtain ⟨c, h, _⟩ := plainElem_int_inv Try.underlying3 hv; exact ⟨c, h⟩) b w.heap.size C.length _ _ _ rfl hrg ?_ ?_)
      | go_in)
    · intro _ hl0
      have hpm : xs.Perm (heldC C t) := by have := HPM.out; rw [come_end hl0] at this; exact this
      have HPC := Lib.hid hpm
      clear hl0 hpm HPM hrg
      by_cases hx0 : xs = []
      · subst hx0
        have hv := HNIL.out rfl
        cases hv
        have HC0 : Hid (heldC C t = []) := HPC.out.symm.eq_nil
        clear HCO
        go_wp2_with fail
        refine (sort_none _).mono ?_
        rintro x _ ⟨rfl, rfl⟩
        go_wp2
        go_ret
        exact ⟨_, _, by rw [HC0.out]; rfl, by rw [HC0.out]; exact (fun hL => absurd hL (by decide)), HB.out⟩
      · have hpos : 0 < xs.length := List.length_pos_iff.2 hx0
        obtain ⟨g, rfl, hBg, hgl⟩ := HA.out hpos
        have HH := Lib.hid HCO.out.holds
        clear hx0 HA
        go_wp2_with fail
        refine (sort_some g c xs _ HH.out hgl hxl).mono ?_
        rintro x w3 ⟨rfl, E, hEl, hEp, hEs, hEh, hEb⟩
        have hEC : E = heldC C t := rising_eq (held_up HOK.out t) hEs (hEp.trans HPC.out)
        have HEC := Lib.hid hEC
        have hsz := (hEb 0 (Nat.zero_le _)).size
        have HF := Lib.hid (nsl_of (B := w.heap.size) hEh hBg (by omega))
        have HB3 := Lib.hid (HB.out.trans (hEb w.heap.size hBg))
        rw [← hEl]
        clear hEp hEs hEh hEb hEl hsz HPC HH HCO HM hgl hBg hpos hEC
        go_wp2
        go_ret
        exact ⟨_, _, by rw [← HEC.out]; rfl, by rw [← HEC.out]; exact HF.out, HB3.out⟩
    · intro x hx c1 kl1 y1 y2 w1 cnt1 hkx hlx hvy hat hrg1 hlt hg1 hs1 hen
      try dsimp only at hkx hen ⊢
      have hk2 : kl1 = kl x := by rw [key_nm hx] at hkx; exact (Option.some.inj hkx).symm
      subst hk2
      obtain ⟨c2, hc2, hy3, _⟩ := plainElem_int_inv Try.underlying3 hvy
      cases hc2
      have hy2 := congrArg Prod.fst hy3
      try dsimp only at hy2
      clear hy3
      have hm : (x, c1) ∈ C := mem_of_at hx HOK.out.rgs (fun zd => by rw [hat zd]; exact hy2)
      have hb1 : RowKit.Below w.heap.size w w1 := HB.out.grown hg1 HB.out.size (fun k e => by cases e; exact Nat.le_refl _)
      have hco1 : NOwn 27 w1 w.heap.size (.slice A xs.length c) xs := World.ownsRow.kept HCO.out hg1 (by
        cases h0 : (Value.slice A xs.length c).ownBlock with
        | none => exact .inl rfl
        | some k => right; intro e; exact (ranges_ne hrg HCO.out).2 (by rw [h0]; exact e.symm))
      have hb2 : RowKit.Below w1.heap.size w1 (w1.alloc (.cells #[.int .u8 (x / 18446744073709551616), .int .u64 (x % 18446744073709551616)] 27)) := (Below.refl _ _).alloc (Nat.le_refl _) _
      have HCO2 := Lib.hid (hco1.later hb2)
      have HRG2 := Lib.hid (hrg1.alloc (.cells #[.int .u8 (x / 18446744073709551616), .int .u64 (x % 18446744073709551616)] 27))
      have HB2 : Hid (RowKit.Below w.heap.size w (w1.alloc (.cells #[.int .u8 (x / 18446744073709551616), .int .u64 (x % 18446744073709551616)] 27))) := stepB hb1 hb2
      have HX := Lib.hid (Blk.new w1 #[.int .u8 (x / 18446744073709551616), .int .u64 (x % 18446744073709551616)] 27)
      have HLT := Lib.hid hlt
      have HR0 := Lib.hid hrg
      by_cases ht : c1 = t
      · subst ht
        have HST := Lib.hid ((HPM.out.append_right [x]).trans (come_step (left := left) HOK.out.rgs hx HOK.out.up hlx hm).symm)
        have dc : (c1 == c1) = true := by simp
        have hb3 : RowKit.Below (w1.alloc (.cells #[.int .u8 (x / 18446744073709551616), .int .u64 (x % 18446744073709551616)] 27)).heap.size (w1.alloc (.cells #[.int .u8 (x / 18446744073709551616), .int .u64 (x % 18446744073709551616)] 27)) ((w1.alloc (.cells #[.int .u8 (x / 18446744073709551616), .int .u64 (x % 18446744073709551616)] 27)).alloc (.cells #[.int .u8 (x / 18446744073709551616), .int .u64 (x % 18446744073709551616)] 27)) := (Below.refl _ _).alloc (Nat.le_refl _) _
        have HCO3 := Lib.hid (HCO2.out.later hb3)
        have HRG3 := Lib.hid (HRG2.out.alloc (.cells #[.int .u8 (x / 18446744073709551616), .int .u64 (x % 18446744073709551616)] 27))
        have HB3 := Lib.hid (stepB HB2.out hb3)
        have HX3 := Lib.hid (Blk.new2 (B := w1.heap.size + 1) (w1.alloc (.cells #[.int .u8 (x / 18446744073709551616), .int .u64 (x % 18446744073709551616)] 27)) #[.int .u8 (x / 18446744073709551616), .int .u64 (x % 18446744073709551616)] 27 (by simp))
        have x0 := HX.out.cell 0
        have x1 := HX.out.cell 1
        simp only [List.getElem?_toArray, List.getElem?_cons_zero, List.getElem?_cons_succ] at x0 x1
        clear hkx hlx hvy hat hrg1 hg1 hs1 hm hb1 hco1 hb2 hb3 hlt hrg HCO HPM HNIL HB HA hy2 HCO2 HRG2 HB2 HX
        have HONE := Lib.hid (blk_oneN HX3.out)
        unfold nmv at *
        go_wp2_with (at_builtin; refine wpList_append_own _ rfl (.tmp 23) (.tmp 25) 30 rfl w.heap.size 27 i0 _ 2 16 Try.underlying30 hi hz0 hz1 hz2 rfl (by decide) _ xs.length (nmvs xs) rfl HCO3.out ⟨w1.heap.size + 1, 0, none⟩ 1 1 (nmvs [x]) rfl rfl HONE.out (nmvs_one _) (by unfold maxLen; omega) (by omega) HB3.out.size ?_; intro v5 w5 ho5 hg5)
        intro hnil5
        have ho6 : NOwn 27 w5 w.heap.size v5 (xs ++ [x]) := by unfold NOwn; rw [nmvs_app, List.length_append]; exact ho5
        have hne := ranges_ne HRG3.out HCO3.out
        have HRG5 := Lib.hid (HRG3.out.kept hg5 hne.1 hne.2)
        have HB5 : Hid (RowKit.Below w.heap.size w w5) := HB3.out.grown hg5 HB3.out.size (fun k e => (HCO3.out.lt k e).1)
        obtain ⟨A5, c5, rfl, _⟩ := ho6.sl
        have HO6 := Lib.hid ho6
        clear ho5 ho6 hg5 hnil5 hne HCO3 HRG3 HB3 HX3 x0 x1 HONE
        go_wp2
        go_roundw
        case rel => exact ⟨_, cnt1, _, HRG5.out, HST.out, HO6.out, fun e => absurd e (by simp), HB5.out⟩
        case measure => rw [HRG5.out.left_eq, HR0.out.left_eq]; exact HLT.out
      · have HST : Hid (comeH C t (fun z => left z && !z.sameKey (kl x)) = comeH C t left) := come_skip HOK.out.rgs hx HOK.out.up hm ht
        have dc : (c1 == t) = false := ieq_no ht
        clear hkx hlx hvy hat hrg1 hg1 hs1 hm hb1 hco1 hb2 hlt hrg HCO HB HA hy2 ht
        unfold nmv at *
        go_wp2
        go_roundw
        case rel => exact ⟨_, cnt1, _, HRG2.out, by rw [HST.out]; exact HPM.out, HCO2.out, HNIL.out, HB2.out⟩
        case measure => rw [HRG2.out.left_eq, HR0.out.left_eq]; exact HLT.out
end Go.Proofs.Ytgjponobiplipaa
