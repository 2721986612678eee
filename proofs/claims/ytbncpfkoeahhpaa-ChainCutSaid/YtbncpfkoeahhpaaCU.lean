/- A built chain of which one version is changed; its handles by place. -/
import Derived.Test.YtbncpfkoeahhpaaCS
namespace Go.Proofs.Ytbncpfkoeahhpaa
open Go.ChangeShapes Go.WideShapes Go.ChangeAt Go.RowKit Go.Maps
set_option linter.unusedVariables false
set_option linter.unusedSimpArgs false

theorem own0 {W : World} {B : Nat} {vU : Value} {us : List Int} {n : Nat} (h : Ow hv W B 24 vU n us) (hn : 0 < n) : ∃ g c, vU = .slice (some ⟨g, 0, none⟩) n c := by
  obtain ⟨h1, hc⟩ := h
  rcases hc with ⟨rfl, rfl⟩ | ⟨g, cap, cur, rfl, _⟩
  · omega
  · exact ⟨g, cap, rfl⟩
theorem own_at {W : World} {B g c : Nat} {us : List Int} {n : Nat} (h : Ow hv W B 24 (.slice (some ⟨g, 0, none⟩) n c) n us) {j : Nat} (hj : j < n) : W.cell? ⟨g, j, none⟩ = some (.int .u64 (us.getD j 0)) := by
  obtain ⟨A5, c5, e5, hsl⟩ := Ow.sl h
  cases e5
  obtain ⟨g2, o, e2, _, hc⟩ := hsl.rd.2 (by omega)
  cases e2
  have hl : j < us.length := by rw [hsl.rd.1]; exact hj
  have := hc j _ (by rw [List.getElem?_eq_getElem hl])
  rw [Nat.zero_add] at this
  rw [this, List.getD_eq_getElem?_getD, List.getElem?_eq_getElem hl]; rfl
theorem which_of (y : Int) (n : Nat) (h0 : 0 < n) (hn : n ≤ 1000000) : ∃ Y k : Nat, k < n ∧ IntKind.u64.wrap y = (Y : Int) ∧ Int.tmod (Y : Int) (n : Int) = (k : Int) ∧ IntKind.u64.wrap (k : Int) = (k : Int) ∧ IntKind.i64.wrap (k : Int) = (k : Int) ∧ IntKind.u64.wrap (n : Int) = (n : Int) ∧ ((n : Int) == 0) = false := by
  obtain ⟨Y, hY⟩ : ∃ Y : Nat, IntKind.u64.wrap y = (Y : Int) := ⟨(y % 18446744073709551616).toNat, by simp [IntKind.wrap, IntKind.bits, IntKind.signed]; omega⟩
  have hk := Nat.mod_lt Y h0
  refine ⟨Y, Y % n, hk, hY, (Int.ofNat_tmod Y n).symm, ?_, ?_, ?_, ?_⟩
  · generalize Y % n = k at *
    simp [IntKind.wrap, IntKind.bits, IntKind.signed]; omega
  · generalize Y % n = k at *
    exact IntWalk.i64_in _ (by omega)
  · simp [IntKind.wrap, IntKind.bits, IntKind.signed]; omega
  · rw [beq_eq_false_iff_ne]; omega
/-- a built chain, of which one version is changed -/
structure Al (st : AS) (nd : Int → Nd) (us : List Int) (L : List Vn) (n k : Nat) (N : Nd) : Prop where
  len : us.length = n
  nod : us.Nodup
  rg : ∀ x ∈ us, hR x ∧ x ≠ 0
  is : ∀ x, hR x → isA st x = decide (x ∈ us)
  oth : ∀ j, j < n → j ≠ k → nd (us.getD j 0) = (L.getD j vn0, topU us j)
  at_ : nd (us.getD k 0) = N
section
variable {st st' : AS} {nd : Int → Nd} {us : List Int} {L : List Vn} {n k : Nat} {N : Nd}
theorem Bd.al (h : Bd st nd us L n) (hk : k < n) (his : ∀ x, hR x → isA st' x = isA st x) : Al st' nd us L n k (nd (us.getD k 0)) := ⟨h.len, h.nod, h.rg, (fun x hx => by rw [his x hx]; exact h.is x hx), (fun j hj _ => h.nd j hj), rfl⟩
theorem us_ne (hn : us.Nodup) {i j : Nat} (hi : i < us.length) (hj : j < us.length) (hij : i ≠ j) : us.getD i 0 ≠ us.getD j 0 := fun e => by
  rw [List.getD_eq_getElem?_getD, List.getD_eq_getElem?_getD, List.getElem?_eq_getElem hi, List.getElem?_eq_getElem hj] at e
  exact hij ((List.getElem_inj hn).1 (by simpa using e))
theorem Bd.set (h : Bd st nd us L n) (hk : k < n) (his : ∀ x, hR x → isA st' x = isA st x) : Al st' (setN nd (us.getD k 0) N) us L n k N := by
  refine ⟨h.len, h.nod, h.rg, fun x hx => by rw [his x hx]; exact h.is x hx, fun j hj hne => ?_, ?_⟩
  · unfold setN
    rw [if_neg (us_ne h.nod (by rw [h.len]; exact hj) (by rw [h.len]; exact hk) hne)]
    exact h.nd j hj
  · unfold setN
    rw [if_pos rfl]
theorem Al.has (h : Al st nd us L n k N) {j : Nat} (hj : j < n) : hR (us.getD j 0) ∧ isA st (us.getD j 0) = true := by
  have hm := getD_in (us := us) (j := j) (by rw [h.len]; exact hj)
  have hr := (h.rg _ hm).1
  exact ⟨hr, by rw [h.is _ hr]; exact decide_eq_true hm⟩
theorem us_all {W : World} {B q a m K : Nat} {cf : Conf} {S : Nat → Prop} (h : CX W B q cf a m st S nd us K) (hK : K ≤ 100000) (hi : ∀ x ∈ us, isA st x = true) : usA st = us.length := by
  rw [h.us hK]
  exact List.countP_eq_length.2 hi
theorem Al.usn {W : World} {B q a m K : Nat} {cf : Conf} {S : Nat → Prop} (h : Al st nd us L n k N) (hx : CX W B q cf a m st S nd us K) (hK : K ≤ 100000) : usA st = n := by
  rw [us_all hx hK (fun x hm => by rw [h.is x (h.rg x hm).1]; exact decide_eq_true hm), h.len]
end
/-- what one version is, behind what was done -/
def Want (r er t : Int) (v : Vn) (was N : Nd) : Prop := (r = 0 ∧ er = 0 ∧ N = (v, was.2)) ∨ (r = 0 ∧ er ≠ 0 ∧ N = was) ∨ (r = 1 ∧ er = 0 ∧ N = ((was.1.1, t, was.1.2.2), was.2)) ∨ (r = 1 ∧ er ≠ 0 ∧ N = was) ∨ (r = 2 ∧ er = 0 ∧ N = (was.1, 0))
theorem read_is {W : World} {B q a m K : Nat} {cf : Conf} {S : Nat → Prop} {st : AS} {nd : Int → Nd} {us : List Int} (h : CX W B q cf a m st S nd us K) {x : Int} (hx : hR x) (hi : isA st x = true) {N : Nd} (hN : nd x = N) : Calls Try.prog 9 #[.pointer (some ⟨q, 0, none⟩), .int .u64 x] W fun e w' => e = .returned (.tuple #[.agg #[.int .i64 N.1.1, .int .i64 N.1.2.1, .bool N.1.2.2.1, .string N.1.2.2.2, .int .u64 N.2], .bool true]) ∧ Below W.heap.size W w' := by
  have h1 := chread_any B q cf a m st S nd us K W h.cr h.ci x hx
  rw [hi, if_pos rfl, hN] at h1
  exact h1
theorem used_is {W : World} {B q a m K n : Nat} {cf : Conf} {S : Nat → Prop} {st : AS} {nd : Int → Nd} {us : List Int} (h : CX W B q cf a m st S nd us K) (hu : usA st = n) : Calls Try.prog 16 #[.pointer (some ⟨q, 0, none⟩)] W fun e w' => e = .returned (.int .i64 (n : Int)) ∧ W = w' := by
  have h1 := chused_any B q cf a m st S W h.cr
  rw [hu] at h1
  exact h1
/-- what lies behind a built chain's making: the engine, its handles, two boxes -/
structure PA (w W : World) (q : Nat) (cf : Conf) (a m : Nat) (st : AS) (S : Nat → Prop) (nd : Int → Nd) (us : List Int) (n gU cU pv : Nat) (v : Vn) (pw : Nat) (z : Nd) : Prop where
  cx : CX W w.heap.size q cf a m st S nd us n
  ow : Ow hv W w.heap.size 24 (.slice (some ⟨gU, 0, none⟩) n cU) n us
  bv : Blk W pv #[.int .i64 v.1, .int .i64 v.2.1, .bool v.2.2.1, .string v.2.2.2] 29
  bw : Blk W pw #[.int .i64 z.1.1, .int .i64 z.1.2.1, .bool z.1.2.2.1, .string z.1.2.2.2, .int .u64 z.2] 31
  lo : Below w.heap.size w W
section
variable {w W W' : World} {q : Nat} {cf : Conf} {a m : Nat} {st st' : AS} {S S' : Nat → Prop} {nd nd' : Int → Nd} {us : List Int} {n gU cU pv pw k : Nat} {v : Vn} {z : Nd} {L : List Vn} {X t : Int}
theorem PA.later (h : PA w W q cf a m st S nd us n gU cU pv v pw z) (hb : Below W.heap.size W W') : PA w W' q cf a m st S nd us n gU cU pv v pw z := ⟨h.cx.later hb, h.ow.later hb, h.bv.later hb, h.bw.later hb, stepB h.lo hb⟩
theorem PA.turn (h : PA w W q cf a m st S nd us n gU cU pv v pw z) (hx : CX W' w.heap.size q cf a m st' S' nd' us n) (hf : FrS W W' S) : PA w W' q cf a m st' S' nd' us n gU cU pv v pw z :=
  ⟨hx, h.cx.cr.ar.ow hf h.ow (by decide), h.cx.cr.ar.blk hf h.bv (by decide), h.cx.cr.ar.blk hf h.bw (by decide), h.cx.cr.ar.frBelow hf h.lo (Nat.le_refl _) h.lo.size⟩
/-- one version was changed, or nothing was done -/
def PD (r t : Int) (k : Nat) (L : List Vn) (w : World) (q : Nat) (cf : Conf) (a m : Nat) (us : List Int) (n gU cU pv : Nat) (v : Vn) (pw : Nat) (z : Nd) (e : Ending) (W : World) : Prop := ∃ (er : Int) (st : AS) (S : Nat → Prop) (nd : Int → Nd) (N : Nd), e = .returned (.int .i64 er) ∧ Want r er t v z N ∧ Al st nd us L n k N ∧ PA w W q cf a m st S nd us n gU cU pv v pw z
theorem PA.still (h : PA w W q cf a m st S nd us n gU cU pv v pw z) (hd : Bd st nd us L n) (hk : k < n) (hX : us.getD k 0 = X) (hz : nd X = z) {r : Int} (hw : Want r 1 t v z z) {e : Ending} {W' : World} (he : e = .returned (.int .i64 1) ∧ Below W.heap.size W W') : PD r t k L w q cf a m us n gU cU pv v pw z e W' := by
  have ha := hd.al (st' := st) hk (fun x _ => rfl)
  rw [hX, hz] at ha
  exact ⟨1, st, S, nd, z, he.1, hw, ha, h.later he.2⟩
theorem PA.does (h : PA w W q cf a m st S nd us n gU cU pv v pw z) (hd : Bd st nd us L n) (hk : k < n) (hX : us.getD k 0 = X) {r : Int} {N : Nd} (hw : Want r 0 t v z N) {e : Ending} {W' : World} (he : XE w.heap.size q cf a m S (setN nd X N) us n (fun x => isA st x) (.int .i64 0) W e W') : PD r t k L w q cf a m us n gU cU pv v pw z e W' := by
  obtain ⟨he, st2, S2, hx2, his, hs2, hf⟩ := he
  have ha := hd.set (N := N) hk his
  rw [hX] at ha
  exact ⟨0, st2, S2, _, N, he, hw, ha, h.turn hx2 hf⟩
theorem pa_change (h : PA w W q cf a m st S nd us n gU cU pv v pw z) (hd : Bd st nd us L n) (hk : k < n) (hX : us.getD k 0 = X) (hz : nd X = z) (hh : hR X ∧ isA st X = true) (hv : v.2.2.2.size ≤ maxLen) (hw : v.1 ≤ 9223372036854775807) : Calls Try.prog 11 #[.pointer (some ⟨q, 0, none⟩), .int .u64 X, .agg #[.int .i64 v.1, .int .i64 v.2.1, .bool v.2.2.1, .string v.2.2.2]] W (PD 0 t k L w q cf a m us n gU cU pv v pw z) := by
  obtain ⟨vw, vt, vb, vs⟩ := v
  cases hm : mayV m (vw, vt, vb, vs) with
  | false => exact (chchange_bad w.heap.size q cf a m st S W h.cx.cr X vw vt vb vs hv hm).mono fun e W' he => h.still hd hk hX hz (.inr (.inl ⟨rfl, by decide, rfl⟩)) he
  | true =>
    have hc := xchange w.heap.size q cf a m st S nd us n W h.cx X hh.1 vw vt vb vs hv hm hw hh.2
    rw [hz] at hc
    exact hc.mono fun e W' he => h.does hd hk hX (.inl ⟨rfl, rfl, rfl⟩) he
theorem pa_stamp (h : PA w W q cf a m st S nd us n gU cU pv v pw z) (hd : Bd st nd us L n) (hk : k < n) (hX : us.getD k 0 = X) (hz : nd X = z) (hh : hR X ∧ isA st X = true) : Calls Try.prog 12 #[.pointer (some ⟨q, 0, none⟩), .int .u64 X, .int .i64 t] W (PD 1 t k L w q cf a m us n gU cU pv v pw z) := by
  by_cases ht : 1 ≤ t ∧ t ≤ 1048576
  · have hc := xstamp w.heap.size q cf a m st S nd us n W h.cx X hh.1 hh.2 t ht
    rw [hz] at hc
    exact hc.mono fun e W' he => h.does hd hk hX (.inr (.inr (.inl ⟨rfl, rfl, rfl⟩))) he
  · exact (stamp_bad q X t W (by omega)).mono fun e W' he => h.still hd hk hX hz (.inr (.inr (.inr (.inl ⟨rfl, by decide, rfl⟩)))) he
theorem pa_cut (h : PA w W q cf a m st S nd us n gU cU pv v pw z) (hd : Bd st nd us L n) (hk : k < n) (hX : us.getD k 0 = X) (hz : nd X = z) (hh : hR X ∧ isA st X = true) : Calls Try.prog 13 #[.pointer (some ⟨q, 0, none⟩), .int .u64 X] W (PD 2 t k L w q cf a m us n gU cU pv v pw z) := by
  have hc := xcut w.heap.size q cf a m st S nd us n W h.cx X hh.1 hh.2
  rw [hz] at hc
  exact hc.mono fun e W' he => h.does hd hk hX (.inr (.inr (.inr (.inr ⟨rfl, rfl, rfl⟩)))) he
end
abbrev SA (gU k : Nat) (X : Int) (pv : Nat) (vw vt : Int) (vb : Bool) (vs : ByteArray) (W : World) : Prop := W.cell? ⟨gU, k, none⟩ = some (.int .u64 X) ∧ W.cell? ⟨pv, 0, none⟩ = some (.int .i64 vw) ∧ W.cell? ⟨pv, 1, none⟩ = some (.int .i64 vt) ∧ W.cell? ⟨pv, 2, none⟩ = some (.bool vb) ∧ W.cell? ⟨pv, 3, none⟩ = some (.string vs)
end Go.Proofs.Ytbncpfkoeahhpaa
