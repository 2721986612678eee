/- CU, CV, CW in one. -/
import Derived.Test.YtbncpfkoeahhpaaCS
/- A built chain of which one version is changed; its handles by place. -/
namespace Go.Proofs.Ytbncpfkoeahhpaa
open Go.ChangeShapes Go.WideShapes Go.ChangeAt Go.RowKit Go.Maps
set_option linter.unusedVariables false
set_option linter.unusedSimpArgs false

theorem own0 {W : World} {B : Nat} {vU : Value} {us : List Int} {n : Nat} (h : Ow hv W B 24 vU n us) (hn : 0 < n) : ∃ g c, vU = .slice (some ⟨g, 0, none⟩) n c := by
  obtain ⟨h1, hc⟩ := h
  rcases hc with ⟨rfl, rfl⟩ | ⟨g, cap, cur, rfl, _⟩
  · omega
  · exact ⟨g, cap, rfl⟩
theorem own_at {W : World} {B g c : Nat} {us : List Int} {n : Nat} (h : Ow hv W B 24 (.slice (some ⟨g, 0, none⟩) n c) n us) {j : Nat} (hj : j < n) : W.cell? ⟨g, j, none⟩ = some (.int .u64 (us.getD j 0)) := by
  obtain ⟨A5, c5, e5, hsl⟩ := Ow.sl h
  cases e5
  obtain ⟨g2, o, e2, _, hc⟩ := hsl.rd.2 (by omega)
  cases e2
  have hl : j < us.length := by rw [hsl.rd.1]; exact hj
  have := hc j _ (by rw [List.getElem?_eq_getElem hl])
  rw [Nat.zero_add] at this
  rw [this, List.getD_eq_getElem?_getD, List.getElem?_eq_getElem hl]; rfl
theorem which_of (y : Int) (n : Nat) (h0 : 0 < n) (hn : n ≤ 1000000) : ∃ Y k : Nat, k < n ∧ IntKind.u64.wrap y = (Y : Int) ∧ Int.tmod (Y : Int) (n : Int) = (k : Int) ∧ IntKind.u64.wrap (k : Int) = (k : Int) ∧ IntKind.i64.wrap (k : Int) = (k : Int) ∧ IntKind.u64.wrap (n : Int) = (n : Int) ∧ ((n : Int) == 0) = false := by
  obtain ⟨Y, hY⟩ : ∃ Y : Nat, IntKind.u64.wrap y = (Y : Int) := ⟨(y % 18446744073709551616).toNat, by simp [IntKind.wrap, IntKind.bits, IntKind.signed]; omega⟩
  have hk := Nat.mod_lt Y h0
  refine ⟨Y, Y % n, hk, hY, (Int.ofNat_tmod Y n).symm, ?_, ?_, ?_, ?_⟩
  · generalize Y % n = k at *
    simp [IntKind.wrap, IntKind.bits, IntKind.signed]; omega
  · generalize Y % n = k at *
    exact IntWalk.i64_in _ (by omega)
  · simp [IntKind.wrap, IntKind.bits, IntKind.signed]; omega
  · rw [beq_eq_false_iff_ne]; omega
/-- a built chain, of which one version is changed -/
structure Al (st : AS) (nd : Int → Nd) (us : List Int) (L : List Vn) (n k : Nat) (N : Nd) : Prop where
  len : us.length = n
  nod : us.Nodup
  rg : ∀ x ∈ us, hR x ∧ x ≠ 0
  is : ∀ x, hR x → isA st x = decide (x ∈ us)
  oth : ∀ j, j < n → j ≠ k → nd (us.getD j 0) = (L.getD j vn0, topU us j)
  at_ : nd (us.getD k 0) = N
section
variable {st st' : AS} {nd : Int → Nd} {us : List Int} {L : List Vn} {n k : Nat} {N : Nd}
theorem Bd.al (h : Bd st nd us L n) (hk : k < n) (his : ∀ x, hR x → isA st' x = isA st x) : Al st' nd us L n k (nd (us.getD k 0)) := ⟨h.len, h.nod, h.rg, (fun x hx => by rw [his x hx]; exact h.is x hx), (fun j hj _ => h.nd j hj), rfl⟩
theorem us_ne (hn : us.Nodup) {i j : Nat} (hi : i < us.length) (hj : j < us.length) (hij : i ≠ j) : us.getD i 0 ≠ us.getD j 0 := fun e => by
  rw [List.getD_eq_getElem?_getD, List.getD_eq_getElem?_getD, List.getElem?_eq_getElem hi, List.getElem?_eq_getElem hj] at e
  exact hij ((List.getElem_inj hn).1 (by simpa using e))
theorem Bd.set (h : Bd st nd us L n) (hk : k < n) (his : ∀ x, hR x → isA st' x = isA st x) : Al st' (setN nd (us.getD k 0) N) us L n k N := by
  refine ⟨h.len, h.nod, h.rg, fun x hx => by rw [his x hx]; exact h.is x hx, fun j hj hne => ?_, ?_⟩
  · unfold setN
    rw [if_neg (us_ne h.nod (by rw [h.len]; exact hj) (by rw [h.len]; exact hk) hne)]
    exact h.nd j hj
  · unfold setN
    rw [if_pos rfl]
theorem Al.has (h : Al st nd us L n k N) {j : Nat} (hj : j < n) : hR (us.getD j 0) ∧ isA st (us.getD j 0) = true := by
  have hm := getD_in (us := us) (j := j) (by rw [h.len]; exact hj)
  have hr := (h.rg _ hm).1
  exact ⟨hr, by rw [h.is _ hr]; exact decide_eq_true hm⟩
theorem us_all {W : World} {B q a m K : Nat} {cf : Conf} {S : Nat → Prop} (h : CX W B q cf a m st S nd us K) (hK : K ≤ 100000) (hi : ∀ x ∈ us, isA st x = true) : usA st = us.length := by
  rw [h.us hK]
  exact List.countP_eq_length.2 hi
theorem Al.usn {W : World} {B q a m K : Nat} {cf : Conf} {S : Nat → Prop} (h : Al st nd us L n k N) (hx : CX W B q cf a m st S nd us K) (hK : K ≤ 100000) : usA st = n := by
  rw [us_all hx hK (fun x hm => by rw [h.is x (h.rg x hm).1]; exact decide_eq_true hm), h.len]
end
/-- what one version is, behind what was done -/
def Want (r er t : Int) (v : Vn) (was N : Nd) : Prop := (r = 0 ∧ er = 0 ∧ N = (v, was.2)) ∨ (r = 0 ∧ er ≠ 0 ∧ N = was) ∨ (r = 1 ∧ er = 0 ∧ N = ((was.1.1, t, was.1.2.2), was.2)) ∨ (r = 1 ∧ er ≠ 0 ∧ N = was) ∨ (r = 2 ∧ er = 0 ∧ N = (was.1, 0))
theorem read_is {W : World} {B q a m K : Nat} {cf : Conf} {S : Nat → Prop} {st : AS} {nd : Int → Nd} {us : List Int} (h : CX W B q cf a m st S nd us K) {x : Int} (hx : hR x) (hi : isA st x = true) {N : Nd} (hN : nd x = N) : Calls Try.prog 9 #[.pointer (some ⟨q, 0, none⟩), .int .u64 x] W fun e w' => e = .returned (.tuple #[.agg #[.int .i64 N.1.1, .int .i64 N.1.2.1, .bool N.1.2.2.1, .string N.1.2.2.2, .int .u64 N.2], .bool true]) ∧ Below W.heap.size W w' := by
  have h1 := chread_any B q cf a m st S nd us K W h.cr h.ci x hx
  rw [hi, if_pos rfl, hN] at h1
  exact h1
theorem used_is {W : World} {B q a m K n : Nat} {cf : Conf} {S : Nat → Prop} {st : AS} {nd : Int → Nd} {us : List Int} (h : CX W B q cf a m st S nd us K) (hu : usA st = n) : Calls Try.prog 16 #[.pointer (some ⟨q, 0, none⟩)] W fun e w' => e = .returned (.int .i64 (n : Int)) ∧ W = w' := by
  have h1 := chused_any B q cf a m st S W h.cr
  rw [hu] at h1
  exact h1
/-- what lies behind a built chain's making: the engine, its handles, two boxes -/
structure PA (w W : World) (q : Nat) (cf : Conf) (a m : Nat) (st : AS) (S : Nat → Prop) (nd : Int → Nd) (us : List Int) (n gU cU pv : Nat) (v : Vn) (pw : Nat) (z : Nd) : Prop where
  cx : CX W w.heap.size q cf a m st S nd us n
  ow : Ow hv W w.heap.size 24 (.slice (some ⟨gU, 0, none⟩) n cU) n us
  bv : Blk W pv #[.int .i64 v.1, .int .i64 v.2.1, .bool v.2.2.1, .string v.2.2.2] 29
  bw : Blk W pw #[.int .i64 z.1.1, .int .i64 z.1.2.1, .bool z.1.2.2.1, .string z.1.2.2.2, .int .u64 z.2] 31
  lo : Below w.heap.size w W
section
variable {w W W' : World} {q : Nat} {cf : Conf} {a m : Nat} {st st' : AS} {S S' : Nat → Prop} {nd nd' : Int → Nd} {us : List Int} {n gU cU pv pw k : Nat} {v : Vn} {z : Nd} {L : List Vn} {X t : Int}
theorem PA.later (h : PA w W q cf a m st S nd us n gU cU pv v pw z) (hb : Below W.heap.size W W') : PA w W' q cf a m st S nd us n gU cU pv v pw z := ⟨h.cx.later hb, h.ow.later hb, h.bv.later hb, h.bw.later hb, stepB h.lo hb⟩
theorem PA.turn (h : PA w W q cf a m st S nd us n gU cU pv v pw z) (hx : CX W' w.heap.size q cf a m st' S' nd' us n) (hf : FrS W W' S) : PA w W' q cf a m st' S' nd' us n gU cU pv v pw z :=
  ⟨hx, h.cx.cr.ar.ow hf h.ow (by decide), h.cx.cr.ar.blk hf h.bv (by decide), h.cx.cr.ar.blk hf h.bw (by decide), h.cx.cr.ar.frBelow hf h.lo (Nat.le_refl _) h.lo.size⟩
/-- one version was changed, or nothing was done -/
def PD (r t : Int) (k : Nat) (L : List Vn) (w : World) (q : Nat) (cf : Conf) (a m : Nat) (us : List Int) (n gU cU pv : Nat) (v : Vn) (pw : Nat) (z : Nd) (e : Ending) (W : World) : Prop := ∃ (er : Int) (st : AS) (S : Nat → Prop) (nd : Int → Nd) (N : Nd), e = .returned (.int .i64 er) ∧ Want r er t v z N ∧ Al st nd us L n k N ∧ PA w W q cf a m st S nd us n gU cU pv v pw z
theorem PA.still (h : PA w W q cf a m st S nd us n gU cU pv v pw z) (hd : Bd st nd us L n) (hk : k < n) (hX : us.getD k 0 = X) (hz : nd X = z) {r : Int} (hw : Want r 1 t v z z) {e : Ending} {W' : World} (he : e = .returned (.int .i64 1) ∧ Below W.heap.size W W') : PD r t k L w q cf a m us n gU cU pv v pw z e W' := by
  have ha := hd.al (st' := st) hk (fun x _ => rfl)
  rw [hX, hz] at ha
  exact ⟨1, st, S, nd, z, he.1, hw, ha, h.later he.2⟩
theorem PA.does (h : PA w W q cf a m st S nd us n gU cU pv v pw z) (hd : Bd st nd us L n) (hk : k < n) (hX : us.getD k 0 = X) {r : Int} {N : Nd} (hw : Want r 0 t v z N) {e : Ending} {W' : World} (he : XE w.heap.size q cf a m S (setN nd X N) us n (fun x => isA st x) (.int .i64 0) W e W') : PD r t k L w q cf a m us n gU cU pv v pw z e W' := by
  obtain ⟨he, st2, S2, hx2, his, hs2, hf⟩ := he
  have ha := hd.set (N := N) hk his
  rw [hX] at ha
  exact ⟨0, st2, S2, _, N, he, hw, ha, h.turn hx2 hf⟩
theorem pa_change (h : PA w W q cf a m st S nd us n gU cU pv v pw z) (hd : Bd st nd us L n) (hk : k < n) (hX : us.getD k 0 = X) (hz : nd X = z) (hh : hR X ∧ isA st X = true) (hv : v.2.2.2.size ≤ maxLen) (hw : v.1 ≤ 9223372036854775807) : Calls Try.prog 11 #[.pointer (some ⟨q, 0, none⟩), .int .u64 X, .agg #[.int .i64 v.1, .int .i64 v.2.1, .bool v.2.2.1, .string v.2.2.2]] W (PD 0 t k L w q cf a m us n gU cU pv v pw z) := by
  obtain ⟨vw, vt, vb, vs⟩ := v
  cases hm : mayV m (vw, vt, vb, vs) with
  | false => exact (chchange_bad w.heap.size q cf a m st S W h.cx.cr X vw vt vb vs hv hm).mono fun e W' he => h.still hd hk hX hz (.inr (.inl ⟨rfl, by decide, rfl⟩)) he
  | true =>
    have hc := xchange w.heap.size q cf a m st S nd us n W h.cx X hh.1 vw vt vb vs hv hm hw hh.2
    rw [hz] at hc
    exact hc.mono fun e W' he => h.does hd hk hX (.inl ⟨rfl, rfl, rfl⟩) he
theorem pa_stamp (h : PA w W q cf a m st S nd us n gU cU pv v pw z) (hd : Bd st nd us L n) (hk : k < n) (hX : us.getD k 0 = X) (hz : nd X = z) (hh : hR X ∧ isA st X = true) : Calls Try.prog 12 #[.pointer (some ⟨q, 0, none⟩), .int .u64 X, .int .i64 t] W (PD 1 t k L w q cf a m us n gU cU pv v pw z) := by
  by_cases ht : 1 ≤ t ∧ t ≤ 1048576
  · have hc := xstamp w.heap.size q cf a m st S nd us n W h.cx X hh.1 hh.2 t ht
    rw [hz] at hc
    exact hc.mono fun e W' he => h.does hd hk hX (.inr (.inr (.inl ⟨rfl, rfl, rfl⟩))) he
  · exact (stamp_bad q X t W (by omega)).mono fun e W' he => h.still hd hk hX hz (.inr (.inr (.inr (.inl ⟨rfl, by decide, rfl⟩)))) he
theorem pa_cut (h : PA w W q cf a m st S nd us n gU cU pv v pw z) (hd : Bd st nd us L n) (hk : k < n) (hX : us.getD k 0 = X) (hz : nd X = z) (hh : hR X ∧ isA st X = true) : Calls Try.prog 13 #[.pointer (some ⟨q, 0, none⟩), .int .u64 X] W (PD 2 t k L w q cf a m us n gU cU pv v pw z) := by
  have hc := xcut w.heap.size q cf a m st S nd us n W h.cx X hh.1 hh.2
  rw [hz] at hc
  exact hc.mono fun e W' he => h.does hd hk hX (.inr (.inr (.inr (.inr ⟨rfl, rfl, rfl⟩)))) he
end
abbrev SA (gU k : Nat) (X : Int) (pv : Nat) (vw vt : Int) (vb : Bool) (vs : ByteArray) (W : World) : Prop := W.cell? ⟨gU, k, none⟩ = some (.int .u64 X) ∧ W.cell? ⟨pv, 0, none⟩ = some (.int .i64 vw) ∧ W.cell? ⟨pv, 1, none⟩ = some (.int .i64 vt) ∧ W.cell? ⟨pv, 2, none⟩ = some (.bool vb) ∧ W.cell? ⟨pv, 3, none⟩ = some (.string vs)
end Go.Proofs.Ytbncpfkoeahhpaa

/- A built chain read, listed and given back. -/
namespace Go.Proofs.Ytbncpfkoeahhpaa
open Go.ChangeShapes Go.WideShapes Go.ChangeAt Go.RowKit Go.Maps
set_option linter.unusedVariables false
set_option linter.unusedSimpArgs false

theorem us_cons {us : List Int} {i : Nat} (h : i < us.length) : us.drop i = us.getD i 0 :: us.drop (i + 1) := by
  rw [List.drop_eq_getElem_cons h, List.getD_eq_getElem?_getD, List.getElem?_eq_getElem h]; rfl
theorem dec_drop {us : List Int} (hn : us.Nodup) {i : Nat} (h : i < us.length) (x : Int) : (decide (x ∈ us.drop i) && decide (x ≠ us.getD i 0)) = decide (x ∈ us.drop (i + 1)) := by
  have hn2 : (us.drop i).Nodup := hn.sublist (List.drop_sublist i us)
  rw [us_cons h] at hn2 ⊢
  have hx := (List.nodup_cons.1 hn2).1
  by_cases e : x = us.getD i 0
  · subst e
    rw [decide_eq_false (p := _ ≠ _) (fun q => q rfl), decide_eq_false (p := _ ∈ us.drop (i + 1)) hx, Bool.and_false]
  · by_cases e2 : x ∈ us.drop (i + 1)
    · rw [decide_eq_true (p := _ ∈ us.drop (i + 1)) e2, decide_eq_true (p := _ ≠ _) e, decide_eq_true (List.mem_cons_of_mem _ e2)]; rfl
    · rw [decide_eq_false (p := _ ∈ us.drop (i + 1)) e2, decide_eq_true (p := _ ≠ _) e, decide_eq_false (fun q => (List.mem_cons.1 q).elim e e2)]; rfl
theorem count_drop {us : List Int} (hn : us.Nodup) (i : Nat) : us.countP (fun x => decide (x ∈ us.drop i)) = us.length - i := by
  have e : us.countP (fun x => decide (x ∈ us.drop i)) = (us.take i ++ us.drop i).countP (fun x => decide (x ∈ us.drop i)) := by rw [List.take_append_drop]
  rw [e, List.countP_append, List.countP_eq_zero.2 (fun x hx => ?_), List.countP_eq_length.2 (fun x hx => decide_eq_true hx), List.length_drop, Nat.zero_add]
  have hn2 : (us.take i ++ us.drop i).Nodup := by rw [List.take_append_drop]; exact hn
  rw [List.nodup_append] at hn2
  simp only [decide_eq_true_eq]
  exact fun h2 => hn2.2.2 x hx x h2 rfl
/-- the engine and its handles -/
structure PU (w W : World) (q : Nat) (cf : Conf) (a m : Nat) (st : AS) (S : Nat → Prop) (nd : Int → Nd) (us : List Int) (n : Nat) (AU : Option Addr) (cU : Nat) : Prop where
  cx : CX W w.heap.size q cf a m st S nd us n
  ow : Ow hv W w.heap.size 24 (.slice AU n cU) n us
  lo : Below w.heap.size w W
section
variable {w W W' : World} {q : Nat} {cf : Conf} {a m : Nat} {st st' : AS} {S S' : Nat → Prop} {nd nd' : Int → Nd} {us : List Int} {n cU i : Nat} {AU : Option Addr} {L : List Vn}
theorem PU.later (h : PU w W q cf a m st S nd us n AU cU) (hb : Below W.heap.size W W') : PU w W' q cf a m st S nd us n AU cU := ⟨h.cx.later hb, h.ow.later hb, stepB h.lo hb⟩
theorem PU.turn (h : PU w W q cf a m st S nd us n AU cU) (hx : CX W' w.heap.size q cf a m st' S' nd' us n) (hf : FrS W W' S) : PU w W' q cf a m st' S' nd' us n AU cU :=
  ⟨hx, h.cx.cr.ar.ow hf h.ow (by decide), h.cx.cr.ar.frBelow hf h.lo (Nat.le_refl _) h.lo.size⟩
def RwI (L : List Vn) (W : World) (e : Ending) (W' : World) : Prop := ∃ A c, e = .returned (.slice A L.length c) ∧ RSl vec 4 W' A L.length L ∧ Below W.heap.size W W'
theorem pu_list (h : PU w W q cf a m st S nd us n AU cU) {x : Int} (hx : hR x) {M : List Vn} {u : Nat} (hu : usA st = u) (hl : lsF st nd u x = M) (hU : u ≤ 100000) : Calls Try.prog 15 #[.pointer (some ⟨q, 0, none⟩), .int .u64 x] W (RwI M W) := by
  have h1 := list_any w.heap.size q cf a m st S nd us n W h.cx.cr h.cx.ci x hx (by omega)
  rw [hu, hl] at h1
  refine h1.mono ?_
  rintro e W' ⟨vb, rfl, ho, hb⟩
  obtain ⟨A, c, rfl, _, _⟩ := ho.sl
  exact ⟨A, c, rfl, ho.rsl vec_len, hb⟩
theorem pu_behind {A : Option Addr} {c j : Nat} (hS : RSl vec 4 W A n L) (hj : j < n) (hn : n ≤ 100000) : Calls Try.prog 23 #[.slice A n c, .int .i64 (j : Int)] W (RwI (bh L j) W) := by
  refine (behind_any A n c L j W hS hj hn).mono ?_
  rintro e W' ⟨A2, c2, rfl, ho, hb⟩
  exact ⟨A2, c2, rfl, ho.rsl vec_len, hb⟩
theorem same_lists {A A' : Option Addr} {k c c' : Nat} {M : List Vn} (hs : RSl vec 4 W A k M) (hu : RSl vec 4 W A' k M) (hk : k ≤ 100000) : Calls Try.prog 22 #[.slice A k c, .slice A' k c'] W fun e W' => e = .returned (.bool true) ∧ Below W.heap.size W W' := by
  refine (lists_any A A' k k c c' M M W hs hu (by omega) (by omega)).mono ?_
  rintro e W' ⟨rfl, d, rfl⟩
  exact ⟨by rw [decide_eq_true rfl], below_drewN (Below.refl _ _) d⟩
theorem pu_free (h : PU w W q cf a m st S nd us n AU cU) (hn : us.Nodup) (hr : ∀ x ∈ us, hR x ∧ x ≠ 0) (hl : us.length = n) (hi : ∀ x, hR x → isA st x = decide (x ∈ us.drop i)) (hlt : i < n) (h3 : n ≤ 300) : Calls Try.prog 14 #[.pointer (some ⟨q, 0, none⟩), .int .u64 (us.getD i 0)] W fun e W' => e = .returned (.int .i64 0) ∧ ∃ st' S', PU w W' q cf a m st' S' nd us n AU cU ∧ (∀ x, hR x → isA st' x = decide (x ∈ us.drop (i + 1))) ∧ usA st' = n - (i + 1) := by
  have hli : i < us.length := by rw [hl]; exact hlt
  have hx := (hr _ (getD_in hli)).1
  have his : isA st (us.getD i 0) = true := by
    rw [hi _ hx, us_cons hli]
    exact decide_eq_true (List.mem_cons_self ..)
  have h1 := xfree w.heap.size q cf a m st S nd us n W h.cx (us.getD i 0) hx
  rw [show frAE (us.getD i 0) st = 0 by unfold frAE; rw [his]; rfl] at h1
  refine h1.mono ?_
  rintro e W' ⟨rfl, st2, S2, hx2, hi2, _, hf⟩
  have h2 : ∀ x, hR x → isA st2 x = decide (x ∈ us.drop (i + 1)) := fun x hx => by
    have e := hi2 x hx
    simp only at e
    rw [e, hi x hx, dec_drop hn hli]
  refine ⟨rfl, st2, S2, h.turn hx2 hf, h2, ?_⟩
  rw [hx2.us (by omega), ← hl, ← count_drop hn (i + 1)]
  exact List.countP_congr (fun x hx => by rw [h2 x (hr x hx).1])
end
abbrev SM (gU i : Nat) (X : Int) (pn : Nat) (zw zt : Int) (zb : Bool) (zs : ByteArray) (tp : Int) (g o : Nat) (W : World) : Prop := W.cell? ⟨gU, i, none⟩ = some (.int .u64 X) ∧ W.cell? ⟨pn, 0, none⟩ = some (.int .i64 zw) ∧ W.cell? ⟨pn, 1, none⟩ = some (.int .i64 zt) ∧ W.cell? ⟨pn, 2, none⟩ = some (.bool zb) ∧ W.cell? ⟨pn, 3, none⟩ = some (.string zs) ∧ W.cell? ⟨pn, 4, none⟩ = some (.int .u64 tp) ∧ W.cell? ⟨g, o, none⟩ = some (.int .i64 zw) ∧ W.cell? ⟨g, o + 1, none⟩ = some (.int .i64 zt) ∧ W.cell? ⟨g, o + 2, none⟩ = some (.bool zb) ∧ W.cell? ⟨g, o + 3, none⟩ = some (.string zs)
/-- .. and a node's box -/
structure PM (w W : World) (q : Nat) (cf : Conf) (a m : Nat) (st : AS) (S : Nat → Prop) (nd : Int → Nd) (us : List Int) (n : Nat) (AU : Option Addr) (cU pn : Nat) (z : Nd) : Prop where
  pu : PU w W q cf a m st S nd us n AU cU
  bn : Blk W pn #[.int .i64 z.1.1, .int .i64 z.1.2.1, .bool z.1.2.2.1, .string z.1.2.2.2, .int .u64 z.2] 31
theorem PM.later {w W W' : World} {q : Nat} {cf : Conf} {a m : Nat} {st : AS} {S : Nat → Prop} {nd : Int → Nd} {us : List Int} {n cU pn : Nat} {AU : Option Addr} {z : Nd} (h : PM w W q cf a m st S nd us n AU cU pn z) (hb : Below W.heap.size W W') : PM w W' q cf a m st S nd us n AU cU pn z := ⟨h.pu.later hb, h.bn.later hb⟩
end Go.Proofs.Ytbncpfkoeahhpaa

/- Two engines; what a List tells behind a Cut, a Free. -/
namespace Go.Proofs.Ytbncpfkoeahhpaa
open Go.ChangeShapes Go.WideShapes Go.ChangeAt Go.RowKit Go.Maps
set_option linter.unusedVariables false
set_option linter.unusedSimpArgs false

/-- two engines beside each other -/
structure TwoE (W : World) (B : Nat) (cf : Conf) (m : Nat) (q a : Nat) (st : AS) (S : Nat → Prop) (nd : Int → Nd) (U : List Int) (K : Nat) (q2 a2 : Nat) (st2 : AS) (S2 : Nat → Prop) (nd2 : Int → Nd) (U2 : List Int) (K2 : Nat) : Prop where
  a : CX W B q cf a m st S nd U K
  b : CX W B q2 cf a2 m st2 S2 nd2 U2 K2
  dis : ∀ k, S2 k → ¬ S k
section
variable {W W' : World} {B : Nat} {cf : Conf} {m q a q2 a2 K K2 K' : Nat} {st st' st2 : AS} {S S' S2 : Nat → Prop} {nd nd' nd2 : Int → Nd} {U U2 U' : List Int}
theorem TwoE.later (h : TwoE W B cf m q a st S nd U K q2 a2 st2 S2 nd2 U2 K2) (hb : Below W.heap.size W W') : TwoE W' B cf m q a st S nd U K q2 a2 st2 S2 nd2 U2 K2 := ⟨h.a.later hb, h.b.later hb, h.dis⟩
theorem TwoE.swap (h : TwoE W B cf m q a st S nd U K q2 a2 st2 S2 nd2 U2 K2) : TwoE W B cf m q2 a2 st2 S2 nd2 U2 K2 q a st S nd U K := ⟨h.b, h.a, fun k h1 h2 => h.dis k h2 h1⟩
theorem TwoE.stepA (h : TwoE W B cf m q a st S nd U K q2 a2 st2 S2 nd2 U2 K2) (hx : CX W' B q cf a m st' S' nd' U' K') (hs : ∀ k, S' k → S k ∨ W.heap.size ≤ k) (hf : FrS W W' S) : TwoE W' B cf m q a st' S' nd' U' K' q2 a2 st2 S2 nd2 U2 K2 :=
  ⟨hx, ⟨h.b.cr.fr hf h.dis (h.a.cr.ar.not h.b.cr.blk (by decide)), h.b.ci, h.b.pg⟩, fun k h2 h1 => by
    rcases hs k h1 with e | e
    · exact h.dis k h2 e
    · have := (h.b.cr.ar.lt k h2).2
      omega⟩
theorem TwoE.stepB (h : TwoE W B cf m q a st S nd U K q2 a2 st2 S2 nd2 U2 K2) (hx : CX W' B q2 cf a2 m st' S' nd' U' K') (hs : ∀ k, S' k → S2 k ∨ W.heap.size ≤ k) (hf : FrS W W' S2) : TwoE W' B cf m q a st S nd U K q2 a2 st' S' nd' U' K' := (h.swap.stepA hx hs hf).swap
def CpT (B : Nat) (cf : Conf) (m q a : Nat) (st : AS) (S : Nat → Prop) (nd : Int → Nd) (U : List Int) (K : Nat) (W : World) (e : Ending) (W' : World) : Prop := ∃ q2 a2 S2, e = .returned (.pointer (some ⟨q2, 0, none⟩)) ∧ TwoE W' B cf m q a st S nd U K q2 a2 st S2 nd U K ∧ Below W.heap.size W W'
theorem xcopy (h : CX W B q cf a m st S nd U K) (hB : B ≤ W.heap.size) : Calls Try.prog 17 #[.pointer (some ⟨q, 0, none⟩)] W (CpT B cf m q a st S nd U K W) := by
  refine (chcopy_any B q cf a m st S W h.cr).mono ?_
  rintro e W' ⟨q2, a2, S2, rfl, hc, hb⟩
  exact ⟨q2, a2, S2, rfl, ⟨h.later hb, ⟨hc.base hB, h.ci, h.pg⟩, fun k h2 h1 => by
    have e1 := (hc.ar.lt k h2).1
    have e2 := (h.cr.ar.lt k h1).2
    omega⟩, hb⟩
end
theorem slice38 (A : Option Addr) (m c k : Nat) (hk : k ≤ m) (hc : m ≤ c) (h0 : A = .none → m = 0 ∧ c = 0) (W : World) : (Instr.slice 38 (.slice A m c) .none (some (.int .i64 (k : Int))) .none).run Try.prog W = .ok (.slice A k c) W := by
  have ht' : Try.prog.underlying 38 = some (.slice (Try.prog.elem 38)) := by simp [Program.elem, Try.underlying38]
  have he : Try.prog.elem 38 = 29 := by simp [Program.elem, Try.underlying38]
  rw [run_slice_h W 38 _ _ _ ht' .i64 _ (by omega) (by omega), he, Try.sizeOf29]
  cases A with
  | none => simp [Result.andThen, sliced]
  | some a => by_cases e : c = 0 <;> simp [Result.andThen, sliced, Addr.add, e]
theorem rsl_take {W : World} {A : Option Addr} {n : Nat} {L : List Vn} (h : RSl vec 4 W A n L) {k : Nat} (hk : k ≤ n) : RSl vec 4 W A k (L.take k) :=
  ⟨by rw [List.length_take, h.1]; omega, fun hp => by
    obtain ⟨g, off, hA, hg, hc⟩ := h.2 (by omega)
    refine ⟨g, off, hA, hg, fun j x hx i hi => hc j x ?_ i hi⟩
    rw [List.getElem?_take] at hx
    split at hx
    · exact hx
    · cases hx⟩
section
variable {st st2 : AS} {nd nd2 : Int → Nd} {us : List Int} {L : List Vn} {n k : Nat}
theorem lsF_cut (h : Bd st nd us L n) (hn : n ≤ L.length) (hk : k < n) (hi : ∀ x, hR x → isA st2 x = isA st x) (hd : ∀ j, j < n → nd2 (us.getD j 0) = (L.getD j vn0, if j = k then 0 else topU us j)) : ∀ r, k + r < n → ∀ f, r + 1 ≤ f → lsF st2 nd2 f (us.getD (k + r) 0) = (bh L (k + r)).take (r + 1)
  | 0, hr, f + 1, _ => by
    obtain ⟨h1, h2⟩ := h.has hk
    show lsF st2 nd2 (f + 1) (us.getD k 0) = (bh L k).take 1
    rw [lsF, hi _ h1, h2, if_pos rfl, hd k hk, if_pos rfl]
    have h0 : isA st2 0 = false := by rw [hi 0 ⟨Int.le_refl _, by decide⟩]; exact h.zero
    show _ :: lsF st2 nd2 f 0 = _
    rw [lsF_dead h0]
    cases k with
    | zero => rw [bh_zero (by omega)]; rfl
    | succ k => rw [bh_succ (by omega)]; rfl
  | r + 1, hr, f + 1, hf => by
    obtain ⟨h1, h2⟩ := h.has (j := k + r + 1) hr
    rw [show k + (r + 1) = k + r + 1 by omega, lsF, hi _ h1, h2, if_pos rfl, hd (k + r + 1) hr, if_neg (by omega), bh_succ (by omega), List.take_succ_cons]
    show _ :: lsF st2 nd2 f (topU us (k + r + 1)) = _
    have e : topU us (k + r + 1) = us.getD (k + r) 0 := by unfold topU; rw [if_neg (by omega)]; rfl
    rw [e, lsF_cut h hn hk hi hd r (by omega) f (by omega)]
theorem lsF_gone (h : Bd st nd us L n) (hn : n ≤ L.length) (hk : k < n) (hi : ∀ x, hR x → isA st2 x = (isA st x && decide (x ≠ us.getD k 0))) : ∀ r, k + r < n → ∀ f, r ≤ f → lsF st2 nd f (us.getD (k + r) 0) = (bh L (k + r)).take r
  | 0, hr, f, _ => by
    obtain ⟨h1, h2⟩ := h.has hk
    show lsF st2 nd f (us.getD k 0) = (bh L k).take 0
    rw [lsF_dead (by rw [hi _ h1]; simp), List.take_zero]
  | r + 1, hr, f + 1, hf => by
    obtain ⟨h1, h2⟩ := h.has (j := k + r + 1) hr
    have hne := us_ne h.nod (i := k + r + 1) (j := k) (by rw [h.len]; omega) (by rw [h.len]; omega) (by omega)
    rw [show k + (r + 1) = k + r + 1 by omega, lsF, hi _ h1, h2, decide_eq_true hne, Bool.and_true, if_pos rfl, h.nd (k + r + 1) hr, bh_succ (by omega), List.take_succ_cons]
    show _ :: lsF st2 nd f (topU us (k + r + 1)) = _
    have e : topU us (k + r + 1) = us.getD (k + r) 0 := by unfold topU; rw [if_neg (by omega)]; rfl
    rw [e, lsF_gone h hn hk hi r (by omega) f (by omega)]
end
def RwJ (M : List Vn) (k : Nat) (W : World) (e : Ending) (W' : World) : Prop := ∃ A c, e = .returned (.slice A k c) ∧ RSl vec 4 W' A k M ∧ k ≤ c ∧ (A = none → k = 0 ∧ c = 0) ∧ Below W.heap.size W W'
theorem x_list {W : World} {B q a m K : Nat} {cf : Conf} {st : AS} {S : Nat → Prop} {nd : Int → Nd} {U : List Int} (h : CX W B q cf a m st S nd U K) {x : Int} (hx : hR x) {M : List Vn} {u k : Nat} (hu : usA st = u) (hl : lsF st nd u x = M) (hk : M.length = k) (hU : u ≤ 100000) : Calls Try.prog 15 #[.pointer (some ⟨q, 0, none⟩), .int .u64 x] W (RwJ M k W) := by
  have h1 := list_any B q cf a m st S nd U K W h.cr h.ci x hx (by omega)
  rw [hu, hl] at h1
  subst hk
  refine h1.mono ?_
  rintro e W' ⟨vb, rfl, ho, hb⟩
  obtain ⟨A, c, rfl, h2, h3⟩ := ho.sl
  exact ⟨A, c, rfl, ho.rsl vec_len, h2, h3, hb⟩
theorem x_behind {W : World} {A : Option Addr} {n c j : Nat} {L : List Vn} (hS : RSl vec 4 W A n L) (hj : j < n) (hn : n ≤ 100000) : Calls Try.prog 23 #[.slice A n c, .int .i64 (j : Int)] W (RwJ (bh L j) (j + 1) W) := by
  have hl := bh_len (L := L) (j := j) (by rw [hS.1]; exact hj)
  refine (behind_any A n c L j W hS hj hn).mono ?_
  rw [← hl]
  rintro e W' ⟨A2, c2, rfl, ho, hb⟩
  obtain ⟨A3, c3, e3, h2, h3⟩ := ho.sl
  cases e3
  exact ⟨A2, c2, rfl, ho.rsl vec_len, h2, h3, hb⟩
theorem x_used {W : World} {B q a m K n : Nat} {cf : Conf} {S : Nat → Prop} {st : AS} {nd : Int → Nd} {us : List Int} (h : CX W B q cf a m st S nd us K) (hu : usA st = n) {z : Int} (hz : z = (n : Int)) : Calls Try.prog 16 #[.pointer (some ⟨q, 0, none⟩)] W fun e w' => e = .returned (.int .i64 z) ∧ W = w' := by
  rw [hz]
  exact used_is h hu
theorem same_rows {W : World} {A A' : Option Addr} {k c c' : Nat} {M M' : List Vn} (hs : RSl vec 4 W A k M) (hu : RSl vec 4 W A' k M') (he : M = M') (hk : k ≤ 100000) : Calls Try.prog 22 #[.slice A k c, .slice A' k c'] W fun e W' => e = .returned (.bool true) ∧ Below W.heap.size W W' := by
  subst he
  exact same_lists hs hu hk
theorem count_ne {us : List Int} (hn : us.Nodup) {x : Int} (hx : x ∈ us) : us.countP (fun y => decide (y ≠ x)) = us.length - 1 := by
  induction us with
  | nil => cases hx
  | cons a us ih =>
    obtain ⟨h1, h2⟩ := List.nodup_cons.1 hn
    rw [List.countP_cons]
    by_cases e : a = x
    · subst e
      have e2 : us.countP (fun y => decide (y ≠ a)) = us.length := List.countP_eq_length.2 (fun y hy => by
        rw [decide_eq_true_eq]
        exact fun (e : y = a) => h1 (e ▸ hy))
      rw [e2]
      simp
    · have hx2 : x ∈ us := by
        rcases List.mem_cons.1 hx with q | q
        · exact absurd q.symm e
        · exact q
      rw [ih h2 hx2, decide_eq_true e, if_pos rfl, List.length_cons]
      have := List.length_pos_of_mem hx2
      omega
/-- two engines, the handles, a row -/
structure P4 (w W : World) (cf : Conf) (m q a : Nat) (st : AS) (S : Nat → Prop) (nd : Int → Nd) (us : List Int) (n q2 a2 : Nat) (st2 : AS) (S2 : Nat → Prop) (nd2 : Int → Nd) (gU cU : Nat) (A6 : Option Addr) (FL : List Vn) : Prop where
  tw : TwoE W w.heap.size cf m q a st S nd us n q2 a2 st2 S2 nd2 us n
  ow : Ow hv W w.heap.size 24 (.slice (some ⟨gU, 0, none⟩) n cU) n us
  fl : RSl vec 4 W A6 n FL
  lo : Below w.heap.size w W
theorem P4.later {w W W' : World} {cf : Conf} {m q a : Nat} {st : AS} {S : Nat → Prop} {nd : Int → Nd} {us : List Int} {n q2 a2 : Nat} {st2 : AS} {S2 : Nat → Prop} {nd2 : Int → Nd} {gU cU : Nat} {A6 : Option Addr} {FL : List Vn} (h : P4 w W cf m q a st S nd us n q2 a2 st2 S2 nd2 gU cU A6 FL) (hb : Below W.heap.size W W') : P4 w W' cf m q a st S nd us n q2 a2 st2 S2 nd2 gU cU A6 FL := ⟨h.tw.later hb, h.ow.later hb, h.fl.later hb, stepB h.lo hb⟩
end Go.Proofs.Ytbncpfkoeahhpaa
