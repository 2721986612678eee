/- List. -/
import Derived.Test.YtbncpfkoeahhpaaCJ
namespace Go.Proofs.Ytbncpfkoeahhpaa
open Go.ChangeShapes Go.WideShapes Go.ChangeAt Go.RowKit Go.Shelf Go.Maps
set_option linter.unusedVariables false
set_option linter.unusedSimpArgs false

attribute [local go_sem] Oper.semAt_some
/-- a version's cells -/
def vec (v : Vn) : List Value := [.int .i64 v.1, .int .i64 v.2.1, .bool v.2.2.1, .string v.2.2.2]
theorem vec_len (v : Vn) : (vec v).length = 4 := rfl
theorem elemV : RElem vec 4 Try.prog 38 29 40 where
  und := Try.underlying38
  info := by
    have h : (Try.prog.info? 29).map (fun i => (i.zero, i.size, i.bytes)) = some (some (.agg #[.int .i64 0, .int .i64 0, .bool false, .string ByteArray.empty]), 4, 40) := by kernel_rfl
    cases hi : Try.prog.info? 29 with
    | none => rw [hi] at h; cases h
    | some i => rw [hi] at h; simp only [Option.map_some, Option.some.injEq, Prod.mk.injEq] at h; exact ⟨i, _, rfl, h.1, h.2.1, h.2.2, rfl⟩
  pos := by decide
  len := vec_len
  one := fun x u hu => by simp [vec] at hu; rcases hu with rfl | rfl | rfl | rfl <;> rfl
theorem from_stops (n : Nat) (hn : 1 ≤ n) (Ba Bt n₀ B q : Nat) (cf : Conf) (a m : Nat) (st : AS) (S : Nat → Prop) (nd : Int → Nd) (U : List Int) (K : Nat) (x0 : Int) (hx0 : hR x0) (N : Nat) (w0 w : World) (hc : CR w0 B q cf a m st S) (hi : CI m st nd U K) (hn0 : w0.heap.size ≤ n₀)
    (ha : Blk w Ba #[.pointer (some ⟨q, 0, none⟩)] 22) (ht : Blk w Bt #[.int .u64 x0] 24) (hw : Below w0.heap.size w0 w) (hnW : n₀ ≤ w.heap.size) :
    SeqT Fence.wide n Try.prog 57 #[.pointer (some ⟨Ba, 0, none⟩), .pointer (some ⟨Bt, 0, none⟩)] (fun v : Vn => #[Value.agg #[.int .i64 v.1, .int .i64 v.2.1, .bool v.2.2.1, .string v.2.2.2]]) 31 (KpT n₀) (fun ys => ∃ y, Lp st nd x0 ys y ∧ isA st y = false) (fun pre => ∃ y, Lp st nd x0 pre y) N w := fun l J Jx W hW hJ hJx hN hY hj0 =>
  from1_in n hn l Ba Bt n₀ B q cf a m st S nd U K x0 hx0 N w0 hc hi hn0 J Jx W (ha.later hW) (ht.later hW) (stepB hw hW) (Nat.le_trans hnW hW.size) hJ hJx hN hY hj0
theorem keeps_b {W W' : World} (h : Below W.heap.size W W') : KeepsOthers W W' := ⟨h.size, fun k o hk _ => (h.block k (Array.getElem?_eq_some_iff.1 hk).1).trans hk⟩
/-- the row beside the iterator -/
theorem TagT.row {B B' : Nat} (q : Nat) (f : List Vn → List Vn) : TagT B' 31 (fun (pre : List Vn) W => ∃ vb, Blk W q #[vb] 38 ∧ ROwn vec 4 W B 29 vb (f pre).length (f pre)) := fun pre W W' row hs hg hr => by
  obtain ⟨vb, h1, h2⟩ := hs
  refine ⟨vb, TagT.blk (fun _ : Unit => q) (fun _ => #[vb]) 38 (by decide) () W W' row h1 hg hr, h2.kept hg (fun i hi e => ?_)⟩
  obtain ⟨cur, hc⟩ := h2.tag i hi
  obtain ⟨_, ⟨o, ho, hb⟩ | ⟨c2, hb⟩⟩ := hr i e.symm
  · rw [hc] at ho; cases ho; cases hb
  · rw [hc] at hb
    simp only [Option.some.injEq, Obj.cells.injEq] at hb
    exact absurd hb.2.1 (by decide)
def LEnd (L : List Vn) (w : World) (e : Ending) (w' : World) : Prop := ∃ vb, e = .returned vb ∧ ROwn vec 4 w' w.heap.size 29 vb L.length L ∧ Below w.heap.size w w'
set_option maxRecDepth 100000 in
set_option maxHeartbeats 8000000 in
theorem list_any (B q : Nat) (cf : Conf) (a m : Nat) (st : AS) (S : Nat → Prop) (nd : Int → Nd) (U : List Int) (K : Nat) (w : World) (h : CR w B q cf a m st S) (hi : CI m st nd U K) (x0 : Int) (hx0 : hR x0) (hU : usA st ≤ 1000000000) : Calls Try.prog 15 #[.pointer (some ⟨q, 0, none⟩), .int .u64 x0] w (LEnd (lsF st nd (usA st) x0) w) := by
  have HC := Lib.hid h
  have HI := Lib.hid hi
  have HX0 := Lib.hid hx0
  clear h hi hx0
  have hb1 : Below w.heap.size w (w.alloc (.cells #[.slice none 0 0] 38)) := (Below.refl _ _).alloc (Nat.le_refl _) _
  have HUS := Lib.hid (chused_any B q cf a m st S _ (HC.out.later hb1))
  have HB1 := Lib.hid hb1
  clear hb1
  obtain ⟨us, hus⟩ : ∃ us, usA st = us := ⟨_, rfl⟩
  rw [hus] at HUS hU ⊢
  refine (callsIn_wide (n := 6)).1 ?_
  refine callsIn_of_wp_marks Try.func15 rfl trivial ?_ rfl
  simp only [Try.ntmps15, List.size_toArray, List.length_cons, List.length_nil, Nat.reduceAdd, Nat.reduceSub, Array.replicate_succ, Array.replicate_zero, List.push_toArray, List.append_toArray, List.nil_append, List.cons_append]
  gi_wp2
  refine ⟨trivial, ?_⟩
  refine (callsIn_wide.2 HUS.out).mono ?_
  rintro e w1 ⟨rfl, rfl⟩
  gi_wp2
  refine ⟨trivial, ?_⟩
  refine (from_any q x0 _ _).mono ?_
  rintro e W1 ⟨rfl, hW1⟩
  have b0 : Blk W1 w.heap.size #[.slice none 0 0] 38 := by rw [hW1]; exact (((Blk.new w _ 38).alloc _).alloc _).alloc _
  have b1 : Blk W1 (w.heap.size + 1) #[.int .i64 us] 3 := by
    have := Blk.new (w.alloc (.cells #[.slice none 0 0] 38)) #[.int .i64 us] 3
    rw [World.size_alloc] at this
    rw [hW1]; exact (this.alloc _).alloc _
  have b2 : Blk W1 (w.heap.size + 1 + 1) #[.pointer (some ⟨q, 0, none⟩)] 22 := by
    have := Blk.new ((w.alloc (.cells #[.slice none 0 0] 38)).alloc (.cells #[.int .i64 us] 3)) #[.pointer (some ⟨q, 0, none⟩)] 22
    simp only [World.size_alloc] at this
    rw [hW1]; exact this.alloc _
  have b3 : Blk W1 (w.heap.size + 1 + 1 + 1) #[.int .u64 x0] 24 := by
    have := Blk.new (((w.alloc (.cells #[.slice none 0 0] 38)).alloc (.cells #[.int .i64 us] 3)).alloc (.cells #[.pointer (some ⟨q, 0, none⟩)] 22)) #[.int .u64 x0] 24
    simp only [World.size_alloc] at this
    rw [hW1]; exact this
  have hB0 : Below w.heap.size w W1 := by
    rw [hW1]; exact ((((Below.refl _ w).alloc (Nat.le_refl _) _).alloc (by simp) _).alloc (by simp; omega) _).alloc (by simp; omega) _
  have hsz1 : w.heap.size + 4 = W1.heap.size := by rw [hW1]; simp
  simp only [World.size_alloc]
  clear hW1 HUS
  have Hsz1 := Lib.hid hsz1
  clear hsz1
  gi_wp2
  obtain ⟨i0, hi0, hz0, hz1, hz2⟩ := info_parts (show (Try.prog.info? 29).map (fun i => (i.zero, i.size, i.bytes)) = some (some (.agg #[.int .i64 0, .int .i64 0, .bool false, .string ByteArray.empty]), 4, 40) by kernel_rfl)
  refine range_tag rfl (by omega) (gf := 57) (lb := #[.pointer (some ⟨w.heap.size + 1 + 1, 0, none⟩), .pointer (some ⟨w.heap.size + 1 + 1 + 1, 0, none⟩)]) rfl trivial (enters_of Try.func57 (by kernel_rfl) rfl)
    (from_stops _ (by omega) (w.heap.size + 1 + 1) (w.heap.size + 1 + 1 + 1) w.heap.size B q cf a m st S nd U K x0 HX0.out (us + 1) w W1 HC.out HI.out (Nat.le_refl _) b2 b3 hB0 (by have := Hsz1.out; omega))
    (fun h k => h.trans k) (KpT.put (by have := Hsz1.out; omega)) (Below.refl _ _) (fun _ => rfl)
    (fun pre W => ((∃ vb, Blk W w.heap.size #[vb] 38 ∧ ROwn vec 4 W w.heap.size 29 vb pre.length pre) ∧ Blk W (w.heap.size + 1) #[.int .i64 us] 3 ∧ pre.length ≤ us) ∧ Below w.heap.size w W)
    (fun c pre W => ((c = .exit 0 ∧ ∃ ini x, pre = ini ++ [x] ∧ ini.length = us) ∧ (∃ vb, Blk W w.heap.size #[vb] 38 ∧ ROwn vec 4 W w.heap.size 29 vb pre.dropLast.length pre.dropLast)) ∧ Below w.heap.size w W)
    (TagT.and (TagT.and (TagT.row _ (fun pre => pre)) (TagT.and (TagT.blk (fun _ => w.heap.size + 1) (fun _ => #[.int .i64 us]) 3 (by decide)) (TagT.pure _ _ _))) (TagT.below (Nat.le_refl _) (by have := Hsz1.out; omega)))
    (fun c => TagT.and (TagT.and (TagT.pure _ _ _) (TagT.row _ (fun pre => pre.dropLast))) (TagT.below (Nat.le_refl _) (by have := Hsz1.out; omega)))
    (fun pre W h => by have := h.1.2.2; omega)
    ⟨⟨⟨_, b0, ROwn.nil0 _ _ _⟩, b1, Nat.zero_le _⟩, hB0⟩
    (fun x a' W => ∃ Bx, Blk W Bx (vec x).toArray 29 ∧ a' = { tmps := #[.pointer (some ⟨q, 0, none⟩), .int .u64 x0, undef, undef, .slice none 0 0, .pointer (some ⟨w.heap.size, 0, none⟩), .pointer (some ⟨w.heap.size + 1, 0, none⟩), .pointer (some ⟨Bx, 0, none⟩), .pointer (some ⟨q, 0, none⟩), .int .i64 us, .pointer (some ⟨q, 0, none⟩), .int .u64 x0, .func (.func 57) #[] #[.pointer (some ⟨w.heap.size + 1 + 1, 0, none⟩), .pointer (some ⟨w.heap.size + 1 + 1 + 1, 0, none⟩)], .agg #[.int .i64 x.1, .int .i64 x.2.1, .bool x.2.2.1, .string x.2.2.2], undef, undef, undef, undef, undef, undef, undef, undef, undef], defers := [] })
    (fun x a' s' X Y row hs hg hr => by
      obtain ⟨Bx, h2, h3⟩ := hs
      exact ⟨Bx, TagT.blk (fun _ : Unit => Bx) (fun _ => (vec x).toArray) 29 (by decide) () X Y row h2 hg hr, h3⟩) ?assign ?body ?done ?stop
  case assign =>
    rintro l pre x W K ⟨⟨⟨vb, c0, ho⟩, c1, hp⟩, hB⟩ hK
    have Hp := Lib.hid hp
    have HO := Lib.hid ho
    clear hp ho
    gi_wp2
    have hb : Below W.heap.size W (W.alloc (.cells #[.int .i64 x.1, .int .i64 x.2.1, .bool x.2.2.1, .string x.2.2.2] 29)) := (Below.refl _ _).alloc (Nat.le_refl _) _
    exact hK _ _ ((KeepsOthers.alloc _ _).from _) (KpT.of_below hb hB.size) ⟨⟨⟨vb, c0.later hb, HO.out.later hb⟩, c1.later hb, Hp.out⟩, stepB hB hb⟩ ⟨W.heap.size, Blk.new W _ _, rfl⟩
  case body =>
    rintro l pre x a' W hl ⟨rl, hlr⟩ ⟨⟨⟨vb, c0, ho⟩, c1, hp⟩, hB⟩ ⟨Bx, cx, rfl⟩
    clear hlr
    obtain ⟨A2, c2, rfl, hc2, hn2⟩ := ho.sl
    have x0' := cx.cell 0
    have x1 := cx.cell 1
    have x2 := cx.cell 2
    have x3 := cx.cell 3
    have y0 := c0.cell 0
    have z0 := c1.cell 0
    simp only [vec, List.getElem?_toArray, List.getElem?_cons_zero, List.getElem?_cons_succ] at x0' x1 x2 x3 y0 z0
    have f0 := c0.frozen 0
    have HO := Lib.hid ho
    have HC0 := Lib.hid c0
    have HC1 := Lib.hid c1
    have HB := Lib.hid hB
    have HCX := Lib.hid cx
    clear ho c0 c1 hB cx b0 b1 b2 b3 hB0 hn2
    by_cases hlen : pre.length = us
    · have e1 : ((pre.length : Int) == (us : Int)) = true := by rw [hlen]; simp
      have HL := Lib.hid hlen
      clear hlen
      gi_wp2
      exact ⟨KeepsFrom.refl _ _, ⟨⟨rfl, pre, x, rfl, HL.out⟩, _, HC0.out, by rw [List.dropLast_concat]; exact HO.out⟩, HB.out⟩
    · have e1 : ((pre.length : Int) == (us : Int)) = false := by rw [beq_eq_false_iff_ne]; omega
      have HLT : Hid (pre.length + 1 ≤ us) := by show _ ≤ _; omega
      clear hlen hp
      have hb3 : Below W.heap.size W (W.alloc (.cells #[.int .i64 x.1, .int .i64 x.2.1, .bool x.2.2.1, .string x.2.2.2] 29)) := (Below.refl _ _).alloc (Nat.le_refl _) _
      have HO3 := Lib.hid (HO.out.later hb3)
      have HX3 : Hid (Blk (W.alloc (.cells #[.int .i64 x.1, .int .i64 x.2.1, .bool x.2.2.1, .string x.2.2.2] 29)) W.heap.size (vec x).toArray 29) := Blk.new W _ 29
      have HB3 := Lib.hid (stepB HB.out hb3)
      have C3 := Lib.hid (HC0.out.later hb3)
      have D3 := Lib.hid (HC1.out.later hb3)
      have HK3 := Lib.hid ((keeps_b hb3).from W1.heap.size)
      have HT3 : Hid (KpT w.heap.size W (W.alloc (.cells #[.int .i64 x.1, .int .i64 x.2.1, .bool x.2.2.1, .string x.2.2.2] 29))) := KpT.of_below hb3 HB.out.size
      have hsz3 : w.heap.size ≤ (W.alloc (.cells #[.int .i64 x.1, .int .i64 x.2.1, .bool x.2.2.1, .string x.2.2.2] 29)).heap.size := Nat.le_trans HB.out.size hb3.size
      have hcell : ∀ j u, (vec x)[j]? = some u → (W.alloc (.cells #[.int .i64 x.1, .int .i64 x.2.1, .bool x.2.2.1, .string x.2.2.2] 29)).cell? ((⟨W.heap.size, 0, none⟩ : Addr).add j) = some u := fun j u hu => by
        rw [add_plain, Nat.zero_add, HX3.out.cell]; simpa using hu
      have HCE := Lib.hid hcell
      clear hcell hb3 HB
      gi_wp2_with (gi_at_builtin; refine wpListIn_append_own _ rfl (.tmp 18) (.tmp 20) 38 rfl w.heap.size 29 i0 _ 4 40 Try.underlying38 hi0 hz0 hz1 hz2 rfl (by decide) _ _ _ rfl HO3.out.2 ⟨W.heap.size, 0, none⟩ 1 1 (vec x) rfl rfl HCE.out (elemV.one x) (by have := HLT.out; unfold maxLen; omega) (by have := HLT.out; omega) hsz3 ?_; intro v4 W4 ho4 hg4)
      intro hnil
      clear hnil
      have h9 : (pre ++ [x]).length = pre.length + 1 := by simp
      have ho5 : ROwn vec 4 W4 w.heap.size 29 v4 (pre.length + 1) (pre ++ [x]) := ⟨h9, by rw [rv_app]; simpa [rv] using ho4⟩
      have hr5 : ∀ k, (Value.slice A2 pre.length c2).ownBlock = some k → w.heap.size ≤ k ∧ ∀ c t, Blk (W.alloc (.cells #[.int .i64 x.1, .int .i64 x.2.1, .bool x.2.2.1, .string x.2.2.2] 29)) k c t → t = 29 := fun k hk => ⟨(HO3.out.lt k hk).1, fun c t hb => by
        obtain ⟨cur, hc⟩ := HO3.out.tag k hk
        exact blk_t hb hc⟩
      have C5 : Hid (Blk W4 w.heap.size #[.slice A2 pre.length c2] 38) := C3.out.grown hg4 (fun e => absurd ((hr5 _ e.symm).2 _ _ C3.out) (by decide))
      have D5 : Hid (Blk W4 (w.heap.size + 1) #[.int .i64 us] 3) := D3.out.grown hg4 (fun e => absurd ((hr5 _ e.symm).2 _ _ D3.out) (by decide))
      have HB5 : Hid (Below w.heap.size w W4) := HB3.out.grown hg4 HB3.out.size (fun k hk => (hr5 k hk).1)
      have HK5 := Lib.hid (HK3.out.trans ((KeepsOthers.of_grownBy hg4 (fun j o hj ho => by obtain ⟨cur, hc⟩ := HO3.out.tag j hj; rw [hc] at ho; cases ho; rfl)).from _))
      have HT5 : Hid (KpT w.heap.size W W4) := HT3.out.trans (KpT.grown hg4 HB3.out.size (fun k hk => ⟨(hr5 k hk).1, fun c t ht hb => by
        have := (hr5 k hk).2 c t hb
        subst this
        rcases ht with h | h | h <;> exact absurd h (by decide)⟩))
      obtain ⟨A5, c5, rfl, _, _⟩ := ho5.sl
      have H5 := Lib.hid ho5
      have y5 := C5.out.cell 0
      have f5 := C5.out.frozen 0
      simp only [List.getElem?_toArray, List.getElem?_cons_zero] at y5
      clear ho4 hg4 ho5 hr5 y0 f0 HO3 HX3 C3 D3 HB3 HK3 HT3 hsz3 HCE
      gi_wp2
      have hne : ∀ i, (Value.slice A5 (pre.length + 1) c5).ownBlock = some i → some i ≠ some w.heap.size := fun i hi e => by
        cases e
        obtain ⟨cur, hc⟩ := H5.out.tag _ hi
        exact absurd (blk_t C5.out hc) (by decide)
      refine ⟨HK5.out.trans ((KeepsOthers.setCell _ _ _).from _), HT5.out.trans (KpT.set C5.out (Nat.le_refl _) HB5.out.size (by decide) _), ⟨⟨_, C5.out.set _, ?_⟩, D5.out.other (by omega) _, ?_⟩, HB5.out.setCell (Nat.le_refl _) _⟩
      · rw [h9]; exact H5.out.kept (grown_set W4 w.heap.size 0 _) hne
      · rw [h9]; exact HLT.out
  case done =>
    rintro D ys W hD ⟨y, hy1, hy2⟩ ⟨⟨⟨vb, c0, ho⟩, c1, hp⟩, hB⟩ hK
    have HE : Hid (lsF st nd us x0 = ys) := lsF_end hy1 hy2 hp
    obtain ⟨A2, c2, rfl, hc2, hn2⟩ := ho.sl
    have y0 := c0.cell 0
    simp only [List.getElem?_toArray, List.getElem?_cons_zero] at y0
    have HBB : Hid (Below w.heap.size w (W.putObj D (.deferred none))) := hB.trans (belowK_b (w := w) (Nat.le_refl _) W D _ _ (by have := Hsz1.out; omega) hK rfl rfl)
    have HOB : Hid (ROwn vec 4 (W.putObj D (.deferred none)) w.heap.size 29 (.slice A2 ys.length c2) ys.length ys) := ho.kept (grownBy_putObj' W D _) (fun i hi e => by
      obtain ⟨cur, hc⟩ := ho.tag i hi
      cases e
      rw [hK] at hc; cases hc)
    clear b0 b1 b2 b3 hB0 ho hB hn2
    gi_wp2
    refine ⟨by simp, .inl ⟨_, _, rfl, run_takeDeferred hK, ?_⟩⟩
    refine ⟨_, results_tmp rfl _ _ _, ?_⟩
    exact ⟨_, rfl, by rw [HE.out]; exact HOB.out, HBB.out⟩
  case stop =>
    rintro D c pre W hD ⟨y, hy⟩ ⟨⟨⟨rfl, ini, x, rfl, hin⟩, vb, c0, ho⟩, hB⟩ hK
    rw [List.dropLast_concat] at ho
    have HE : Hid (lsF st nd us x0 = ini) := by show _ = _; rw [← hin]; exact lsF_full hy
    obtain ⟨A2, c2, rfl, hc2, hn2⟩ := ho.sl
    have y0 := c0.cell 0
    simp only [List.getElem?_toArray, List.getElem?_cons_zero] at y0
    have HBB : Hid (Below w.heap.size w (W.putObj D (.deferred none))) := hB.trans (belowK_b (w := w) (Nat.le_refl _) W D _ _ (by have := Hsz1.out; omega) hK rfl rfl)
    have HOB : Hid (ROwn vec 4 (W.putObj D (.deferred none)) w.heap.size 29 (.slice A2 ini.length c2) ini.length ini) := ho.kept (grownBy_putObj' W D _) (fun i hi e => by
      obtain ⟨cur, hc⟩ := ho.tag i hi
      cases e
      rw [hK] at hc; cases hc)
    clear b0 b1 b2 b3 hB0 ho hB hn2
    gi_wp2
    refine ⟨by simp, .inl ⟨_, _, rfl, run_takeDeferred hK, ?_⟩⟩
    refine ⟨_, results_tmp rfl _ _ _, ?_⟩
    exact ⟨_, rfl, by have h7 := HOB.out; rw [HE.out]; rw [hin] at h7 ⊢; exact h7, HBB.out⟩
end Go.Proofs.Ytbncpfkoeahhpaa
