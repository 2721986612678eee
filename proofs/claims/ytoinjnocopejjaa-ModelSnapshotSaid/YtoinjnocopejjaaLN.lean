/- A note: what a Begin began. -/
import Derived.Test.YtoinjnocopejjaaLK
import Derived.StillTailTactics
import Derived.Deep.QuietTactic
import Derived.BigQuiet
namespace Go.Proofs.Ytoinjnocopejjaa
open Go.ChangeShapes Go.WideShapes Go.ChangeAt Go.RowKit Go.Maps
set_option linter.unusedVariables false
set_option linter.unusedSimpArgs false
theorem noteI_1 (g : Lg) (at_ t : Int) (y : Int × ByteArray × ByteArray × ByteArray × Int × Nat) (fo : Bool) (av : ByteArray) (prs : List Pr) (ix : Int) : noteI g at_ t (1, y) (0, fo, av, prs) ix = { g with lives := g.lives ++ [⟨t, (cntL t g.lives : Int) + 1, g.time, [], at_, 0⟩] } := by
  unfold noteI
  rw [if_neg (fun e => e.elim (fun e3 => e3 rfl) (fun e3 => e3.1 rfl)), if_pos rfl]
theorem hneL {W W1 : World} {B p : Nat} {g : Lg} {x : LX} (h : LgAt W B p g x) (hg : W.grownBy W1 (Value.slice x.lA g.lives.length x.lc).ownBlock) {j : Nat} {cu : Array Value} {t : TypeId} (hb : Blk W j cu t) (ht : t ≠ 73) : W1.heap[j]? = W.heap[j]? :=
  hg.block j hb.lt (fun e2 => by
    obtain ⟨cu2, h2⟩ := h.li.tag j e2.symm
    rw [show W.heap[j]? = some (.cells cu t (0, 0)) from hb] at h2
    simp only [Option.some.injEq, Obj.cells.injEq] at h2
    exact ht h2.2.1)
set_option maxRecDepth 100000 in
set_option maxHeartbeats 1600000 in
theorem note_begin (B p : Nat) (g : Lg) (x : LX) (at_ ta tx li er : Int) (ke en va av : ByteArray) (kn eg n c : Nat) (fo : Bool) (A : Option Addr) (prs : List Pr) (w : World) (h : LgAt w B p g x) (hl : g.lives.length ≤ 1000) (hB : B ≤ w.heap.size) (h0 : er = 0) (hkn : kn = 1) : Calls Try.prog 36 #[.pointer (some ⟨p, 0, none⟩), .int .i64 at_, .agg #[.int .i64 ta, .int .u8 (kn : Int), .int .i64 tx, .string ke, .string en, .string va, .int .i64 li, .int .u8 (eg : Int)], .agg #[.int .i64 er, .bool fo, .string av, .slice A n c]] w (NtEnd B p (noteL g at_ ta (kn, tx, ke, en, va, li, eg) (er, fo, av, prs)) w) := by
  subst h0
  subst hkn
  have hb2 : Below w.heap.size w ((w.alloc (.cells #[.int .i64 ta, .int .u8 1, .int .i64 tx, .string ke, .string en, .string va, .int .i64 li, .int .u8 (eg : Int)] 63)).alloc (.cells #[.int .i64 0, .bool fo, .string av, .slice A n c] 33)) := ((Below.refl _ _).alloc (Nat.le_refl _) _).alloc (by simp) _
  have HB := Lib.hid hb2
  have KT : Hid (Blk ((w.alloc (.cells #[.int .i64 ta, .int .u8 1, .int .i64 tx, .string ke, .string en, .string va, .int .i64 li, .int .u8 (eg : Int)] 63)).alloc (.cells #[.int .i64 0, .bool fo, .string av, .slice A n c] 33)) w.heap.size #[.int .i64 ta, .int .u8 1, .int .i64 tx, .string ke, .string en, .string va, .int .i64 li, .int .u8 (eg : Int)] 63) := Lib.hid ((Blk.new w _ 63).alloc _)
  have KA : Hid (Blk ((w.alloc (.cells #[.int .i64 ta, .int .u8 1, .int .i64 tx, .string ke, .string en, .string va, .int .i64 li, .int .u8 (eg : Int)] 63)).alloc (.cells #[.int .i64 0, .bool fo, .string av, .slice A n c] 33)) (w.heap.size + 1) #[.int .i64 0, .bool fo, .string av, .slice A n c] 33) := Lib.hid (Blk.new2 _ _ 33 (by simp))
  have H := Lib.hid (h.later hb2)
  have HL := Lib.hid hl
  have HBB := Lib.hid hB
  have HIX := Lib.hid (show ∀ ix, findL g ta tx = ix → noteL g at_ ta (1, tx, ke, en, va, li, eg) (0, fo, av, prs) = noteI g at_ ta (1, tx, ke, en, va, li, eg) (0, fo, av, prs) ix from fun ix e => by rw [← e]; rfl)
  obtain ⟨ix, hix⟩ : ∃ ix, findL g ta tx = ix := ⟨_, rfl⟩
  have HIY := Lib.hid hix
  have HI2 := Lib.hid (HIX.out ix hix)
  rw [HI2.out]
  obtain ⟨GR, hGR⟩ : ∃ GR, noteI g at_ ta (1, tx, ke, en, va, li, eg) (0, fo, av, prs) ix = GR := ⟨_, rfl⟩
  have HGR := Lib.hid hGR
  rw [hGR]
  clear hb2 h hl hB hix HIX hGR HI2
  go_enter Try.func36, Try.ntmps36
  go_upto_region 1 with (fail)
  generalize ((w.alloc (.cells #[.int .i64 ta, .int .u8 1, .int .i64 tx, .string ke, .string en, .string va, .int .i64 li, .int .u8 (eg : Int)] 63)).alloc (.cells #[.int .i64 0, .bool fo, .string av, .slice A n c] 33)) = w2 at *
  have z0 := KT.out.cell 0
  have z1 := KT.out.cell 1
  have z2 := KT.out.cell 2
  have z3 := KT.out.cell 3
  have z4 := KT.out.cell 4
  have z5 := KT.out.cell 5
  have z6 := KT.out.cell 6
  have z7 := KT.out.cell 7
  simp only [List.getElem?_toArray, List.getElem?_cons_zero, List.getElem?_cons_succ] at z0 z1 z2 z3 z4 z5 z6 z7
  go_wp2_with fail
  refine (find_any B p g x ta tx _ H.out HL.out).mono ?_
  rintro e w3 ⟨rfl, rfl⟩
  rw [HIY.out]
  have u0 := KA.out.cell 0
  have u1 := KA.out.cell 1
  have u2 := KA.out.cell 2
  simp only [List.getElem?_toArray, List.getElem?_cons_zero, List.getElem?_cons_succ] at u0 u1 u2
  obtain ⟨NL, hNL⟩ : ∃ NL : Lf, NL = ⟨ta, (cntL ta g.lives : Int) + 1, g.time, [], at_, 0⟩ := ⟨_, rfl⟩
  have HE : Hid (GR = { g with lives := g.lives ++ [NL] }) := Lib.hid (by
    rw [← HGR.out, hNL]
    exact noteI_1 ..)
  have HNL := Lib.hid hNL
  clear HGR HIY hNL
  obtain ⟨n, hn⟩ : ∃ n, g.lives.length = n := ⟨_, rfl⟩
  have HN := Lib.hid hn
  have HL2 : Hid (n ≤ 1000) := Lib.hid (by rw [← hn]; exact HL.out)
  clear hn
  go_upto_region 6 with (fail)
  clear z0 z1 z2 z3 z4 z5 z6 z7 u0 u1 u2
  have z0 := KT.out.cell 0
  simp only [List.getElem?_toArray, List.getElem?_cons_zero, List.getElem?_cons_succ] at z0
  go_wp2
  go_loopw [9, 10] (fun s9 s10 W => ∃ k : Nat, k ≤ n ∧ s10 = .int .i64 k ∧ s9 = .int .i64 ((cntL ta (g.lives.take k) : Int) + 1) ∧ Below w2.heap.size w2 W) (fun _ s10 _ => n - (intOf s10).toNat)
  case atStart => exact ⟨0, Nat.zero_le _, rfl, by rw [List.take_zero]; rfl, Below.refl _ _⟩
  case round =>
    obtain ⟨k, hk, rfl, rfl, hb⟩ := hrel
    have HBW := Lib.hid hb
    clear hb z0
    have H2 := Lib.hid (H.out.later HBW.out)
    have KT2 := Lib.hid (KT.out.later HBW.out)
    have hcl : cntL ta (g.lives.take k) ≤ k := Nat.le_trans (List.length_filter_le _ _) (by rw [List.length_take]; omega)
    obtain ⟨cn, hcn⟩ : ∃ cn, cntL ta (g.lives.take k) = cn := ⟨_, rfl⟩
    rw [hcn] at hcl ⊢
    have HCN := Lib.hid hcn
    have HCL := Lib.hid hcl
    clear hcn hcl
    by_cases hlt : k < n
    · have d2 : decide ((k : Int) < (n : Int)) = true := decide_eq_true (Int.ofNat_lt.2 hlt)
      have d2' : decide (k < n) = true := decide_eq_true hlt
      have hkl : k < g.lives.length := by rw [HN.out]; exact hlt
      obtain ⟨b, off, hd, hA, _, hc⟩ := H2.out.life hkl
      have k2 := H2.out.c0.2.2
      rw [HN.out, hA] at k2
      have y0 := hc 0 (by decide)
      unfold lfE at y0
      simp only [List.getElem?_cons_zero, Nat.add_zero] at y0
      have i1 := idx59 b off n x.lc k (k : Int) rfl hlt
      obtain ⟨wk, wk2⟩ := wk_1000 k (by have := HL2.out; omega)
      have hw1 := wk_1000 (cn + 1) (by have := HL2.out; have := HCL.out; omega)
      obtain ⟨wc, wc2⟩ : IntKind.i64.wrap (((cn : Nat) : Int) + 1 + 1) = (cn : Int) + 1 + 1 ∧ wrap64 (((cn : Nat) : Int) + 1 + 1) = (cn : Int) + 1 + 1 := by rw [Int.natCast_add] at hw1; exact hw1
      have hst : cntL ta (g.lives.take (k + 1)) = cn + if (gl g k).task = ta then 1 else 0 := by
        rw [List.take_add_one, gl_at hkl, ← HCN.out]
        exact cntL_app ta _ _
      have z0 := KT2.out.cell 0
      simp only [List.getElem?_toArray, List.getElem?_cons_zero, List.getElem?_cons_succ] at z0
      obtain ⟨lt, hlt1⟩ : ∃ z, (gl g k).task = z := ⟨_, rfl⟩
      rw [hlt1] at y0 hst
      have HK := Lib.hid hlt
      have HST := Lib.hid hst
      clear hc hA hkl hlt hlt1 hw1 hst hk
      by_cases e1 : lt = ta
      · have b1 : (lt == ta) = true := by rw [e1]; exact beq_self_eq_true _
        have HS2 : Hid (((cntL ta (g.lives.take (k + 1)) : Nat) : Int) = (cn : Int) + 1) := Lib.hid (by rw [HST.out, if_pos e1, Int.natCast_add]; rfl)
        clear e1 HST
        go_wp2
        go_quiet (fail)
        go_wp2
        exact ⟨⟨k + 1, HK.out, by go_num, by rw [HS2.out], below_drewN HBW.out _⟩, ms_n k n HK.out⟩
      · have b1 : (lt == ta) = false := by rw [beq_eq_false_iff_ne]; exact e1
        have HS2 : Hid (((cntL ta (g.lives.take (k + 1)) : Nat) : Int) = (cn : Int)) := Lib.hid (by rw [HST.out, if_neg e1, Nat.add_zero])
        clear e1 HST wc wc2
        go_wp2
        go_quiet (fail)
        go_wp2
        exact ⟨⟨k + 1, HK.out, by go_num, by rw [HS2.out], below_drewN HBW.out _⟩, ms_n k n HK.out⟩
    · obtain rfl : n = k := by omega
      have d2 : decide ((n : Int) < (n : Int)) = false := decide_eq_false (Int.lt_irrefl _)
      have HCA : Hid (((cntL ta g.lives : Nat) : Int) = (cn : Int)) := Lib.hid (by rw [← HCN.out, ← HN.out, List.take_length])
      have HEL : Hid (lfE (NL, none, 0) = [.int .i64 ta, .int .i64 ((cn : Int) + 1), .int .i64 g.time, .slice none 0 0, .int .i64 at_, .int .i64 0]) := Lib.hid (by rw [HNL.out, HCA.out]; rfl)
      have k2 := H2.out.c0.2.2
      rw [HN.out] at k2
      clear hlt hk
      go_upto_region 11 with (fail)
      clear d2 k2
      refine wp_region_noPanic ?_
      obtain ⟨W0, rfl⟩ : ∃ W0 : World, W0 = wr := ⟨_, rfl⟩
      refine wp_region_held_drew (S := fun W => (∃ v, Blk W p #[.int .i64 g.time, .slice x.fA g.facts.length x.fc, v] 61) ∧ Blk W w.heap.size #[.int .i64 ta, .int .u8 1, .int .i64 tx, .string ke, .string en, .string va, .int .i64 li, .int .u8 (eg : Int)] 63) (by kernel_rfl) (⟨⟨_, (H2.out.later (Below.drew (Below.refl _ _))).blk⟩, KT2.out.later (Below.drew (Below.refl _ _))⟩) (fun hHeld => ?_)
      replace HBW : Hid (Below w2.heap.size w2 (World.drew W0)) := Lib.hid (Below.drew HBW.out)
      replace KT2 := Lib.hid (KT2.out.later (Below.drew (Below.refl _ _)))
      replace H2 := Lib.hid (H2.out.later (Below.drew (Below.refl _ _)))
      generalize World.drew W0 = Wd at *
      refine wpAnyH_take (i := 0) (oi := { dst := some 62, op := Op.move (Operand.tmp 0), type := 57, pos := "outright.go:173", after := #[], guard := none }) (v := ?_) rfl (by kernel_rfl) (by kernel_rfl) (by kernel_rfl) (fun _ _ _ h => h) (Or.inl ⟨by rfl, ?_⟩) (by assumption) ?_
      rotate_left
      · intro W hSw
        clear hSw
        go_simp
        try with_reducible rfl
      simp only [Act.put, List.setIfInBounds_toArray, List.set_cons_zero, List.set_cons_succ]
      refine wpAnyH_take (i := 1) (oi := { dst := some 63, op := Op.move (Operand.tmp 0), type := 57, pos := "outright.go:173", after := #[], guard := none }) (v := ?_) rfl (by kernel_rfl) (by kernel_rfl) (by kernel_rfl) (fun _ _ _ h => h) (Or.inl ⟨by rfl, ?_⟩) (by assumption) ?_
      rotate_left
      · intro W hSw
        clear hSw
        go_simp
        try with_reducible rfl
      simp only [Act.put, List.setIfInBounds_toArray, List.set_cons_zero, List.set_cons_succ]
      refine wpAnyH_take (i := 2) (oi := { dst := some 64, op := Op.nilCheck (Operand.tmp 63), type := 0, pos := "outright.go:173", after := #[{ on := 1, ground := Ground.data }], guard := none }) (v := ?_) rfl (by kernel_rfl) (by kernel_rfl) (by kernel_rfl) (fun _ _ _ h => h) (Or.inl ⟨by rfl, ?_⟩) (by assumption) ?_
      rotate_left
      · intro W hSw
        clear hSw
        go_simp
        try with_reducible rfl
      simp only [Act.put, List.setIfInBounds_toArray, List.set_cons_zero, List.set_cons_succ]
      refine wpAnyH_take (i := 3) (oi := { dst := some 65, op := Op.fieldAddr 61 (Operand.tmp 64) 2, type := 0, pos := "outright.go:173", after := #[{ on := 2, ground := Ground.data }], guard := none }) (v := ?_) rfl (by kernel_rfl) (by kernel_rfl) (by kernel_rfl) (fun _ _ _ h => h) (Or.inl ⟨by rfl, ?_⟩) (by assumption) ?_
      rotate_left
      · intro W hSw
        clear hSw
        go_simp
        try with_reducible rfl
      simp only [Act.put, List.setIfInBounds_toArray, List.set_cons_zero, List.set_cons_succ]
      refine wpAnyH_take (i := 5) (oi := { dst := some 67, op := Op.fieldAddr 63 (Operand.tmp 6) 0, type := 0, pos := "outright.go:173", after := #[], guard := none }) (v := ?_) rfl (by kernel_rfl) (by kernel_rfl) (by kernel_rfl) (fun _ _ _ h => h) (Or.inl ⟨by rfl, ?_⟩) (by assumption) ?_
      rotate_left
      · intro W hSw
        clear hSw
        go_simp
        try with_reducible rfl
      simp only [Act.put, List.setIfInBounds_toArray, List.set_cons_zero, List.set_cons_succ]
      refine wpAnyH_take (i := 6) (oi := { dst := some 68, op := Op.load 3 (Operand.tmp 67), type := 3, pos := "outright.go:173", after := #[{ on := 5, ground := Ground.data }], guard := none }) (v := ?_) rfl (by kernel_rfl) (by kernel_rfl) (by kernel_rfl) (fun _ _ _ h => h) (Or.inl ⟨by rfl, ?_⟩) (by assumption) ?_
      rotate_left
      · intro W hSw
        obtain ⟨_, ht⟩ := hSw
        have z0 := ht.cell 0
        simp only [List.getElem?_toArray, List.getElem?_cons_zero, List.getElem?_cons_succ] at z0
        clear ht
        go_simp
        try with_reducible rfl
      simp only [Act.put, List.setIfInBounds_toArray, List.set_cons_zero, List.set_cons_succ]
      refine wpAnyH_take (i := 7) (oi := { dst := some 69, op := Op.move (Operand.tmp 9), type := 3, pos := "outright.go:173", after := #[], guard := none }) (v := ?_) rfl (by kernel_rfl) (by kernel_rfl) (by kernel_rfl) (fun _ _ _ h => h) (Or.inl ⟨by rfl, ?_⟩) (by assumption) ?_
      rotate_left
      · intro W hSw
        clear hSw
        go_simp
        try with_reducible rfl
      simp only [Act.put, List.setIfInBounds_toArray, List.set_cons_zero, List.set_cons_succ]
      refine wpAnyH_take (i := 8) (oi := { dst := some 70, op := Op.move (Operand.tmp 0), type := 57, pos := "outright.go:173", after := #[], guard := none }) (v := ?_) rfl (by kernel_rfl) (by kernel_rfl) (by kernel_rfl) (fun _ _ _ h => h) (Or.inl ⟨by rfl, ?_⟩) (by assumption) ?_
      rotate_left
      · intro W hSw
        clear hSw
        go_simp
        try with_reducible rfl
      simp only [Act.put, List.setIfInBounds_toArray, List.set_cons_zero, List.set_cons_succ]
      refine wpAnyH_take (i := 9) (oi := { dst := some 71, op := Op.nilCheck (Operand.tmp 70), type := 0, pos := "outright.go:173", after := #[{ on := 8, ground := Ground.data }], guard := none }) (v := ?_) rfl (by kernel_rfl) (by kernel_rfl) (by kernel_rfl) (fun _ _ _ h => h) (Or.inl ⟨by rfl, ?_⟩) (by assumption) ?_
      rotate_left
      · intro W hSw
        clear hSw
        go_simp
        try with_reducible rfl
      simp only [Act.put, List.setIfInBounds_toArray, List.set_cons_zero, List.set_cons_succ]
      refine wpAnyH_take (i := 10) (oi := { dst := some 72, op := Op.fieldAddr 61 (Operand.tmp 71) 0, type := 0, pos := "outright.go:173", after := #[{ on := 9, ground := Ground.data }], guard := none }) (v := ?_) rfl (by kernel_rfl) (by kernel_rfl) (by kernel_rfl) (fun _ _ _ h => h) (Or.inl ⟨by rfl, ?_⟩) (by assumption) ?_
      rotate_left
      · intro W hSw
        clear hSw
        go_simp
        try with_reducible rfl
      simp only [Act.put, List.setIfInBounds_toArray, List.set_cons_zero, List.set_cons_succ]
      refine wpAnyH_take (i := 11) (oi := { dst := some 73, op := Op.load 3 (Operand.tmp 72), type := 3, pos := "outright.go:173", after := #[{ on := 10, ground := Ground.data }], guard := none }) (v := ?_) rfl (by kernel_rfl) (by kernel_rfl) (by kernel_rfl) (fun _ _ _ h => h) (Or.inl ⟨by rfl, ?_⟩) (by assumption) ?_
      rotate_left
      · intro W hSw
        obtain ⟨⟨v, hb⟩, _⟩ := hSw
        have q0 := hb.cell 0
        simp only [List.getElem?_toArray, List.getElem?_cons_zero, List.getElem?_cons_succ] at q0
        clear hb
        go_simp
        try with_reducible rfl
      simp only [Act.put, List.setIfInBounds_toArray, List.set_cons_zero, List.set_cons_succ]
      refine wpAnyH_take (i := 12) (oi := { dst := some 74, op := Op.move (Operand.tmp 1), type := 3, pos := "outright.go:173", after := #[], guard := none }) (v := ?_) rfl (by kernel_rfl) (by kernel_rfl) (by kernel_rfl) (fun _ _ _ h => h) (Or.inl ⟨by rfl, ?_⟩) (by assumption) ?_
      rotate_left
      · intro W hSw
        clear hSw
        go_simp
        try with_reducible rfl
      simp only [Act.put, List.setIfInBounds_toArray, List.set_cons_zero, List.set_cons_succ]
      refine wpAnyH_take (i := 13) (oi := { dst := some 75, op := Op.build 73 #[(0, Operand.tmp 68), (1, Operand.tmp 69), (2, Operand.tmp 73), (4, Operand.tmp 74)], type := 73, pos := "outright.go:173", after := #[{ on := 6, ground := Ground.data }, { on := 7, ground := Ground.data }, { on := 11, ground := Ground.data }, { on := 12, ground := Ground.data }], guard := none }) (v := ?_) rfl (by kernel_rfl) (by kernel_rfl) (by kernel_rfl) (fun _ _ _ h => h) (Or.inl ⟨by rfl, ?_⟩) (by assumption) ?_
      rotate_left
      · intro W hSw
        clear hSw
        go_simp
        try with_reducible rfl
      simp only [Act.put, List.setIfInBounds_toArray, List.set_cons_zero, List.set_cons_succ]
      refine wpAnyH_ready (rs := [4, 14]) (by kernel_rfl) (by simp) (AllReadyH.cons (o := { dst := some 66, op := Op.load 59 (Operand.tmp 65), type := 59, pos := "outright.go:173", after := #[{ on := 3, ground := Ground.data }], guard := none }) rfl (fun K hK => ?_) (AllReadyH.cons (o := { dst := some 76, op := Op.buildSlice 59 1 #[(0, Operand.tmp 75)], type := 59, pos := "outright.go:173", after := #[{ on := 13, ground := Ground.data }], guard := none }) rfl (fun K hK => ?_) AllReadyH.nil))
      · have hl := H2.out.c0.2.2
        rw [HN.out] at hl
        go_simp
        clear hl hHeld
        refine hK.out _ _ (⟨⟨_, H2.out.blk⟩, KT2.out⟩) (fun hHeld => ?_)
        clear hK K
        refine wpAnyH_ready (rs := [14]) (by kernel_rfl) (by simp) (AllReadyH.cons (o := { dst := some 76, op := Op.buildSlice 59 1 #[(0, Operand.tmp 75)], type := 59, pos := "outright.go:173", after := #[{ on := 13, ground := Ground.data }], guard := none }) rfl (fun K hK => ?_) AllReadyH.nil)
        go_simp
        have hb : Below Wd.heap.size Wd (Wd.alloc (.cells #[.int .i64 ta, .int .i64 ((cn : Int) + 1), .int .i64 g.time, .slice none 0 0, .int .i64 at_, .int .i64 0] 73)) := (Below.refl _ _).alloc (Nat.le_refl _) _
        have KV : Hid (Blk (Wd.alloc (.cells #[.int .i64 ta, .int .i64 ((cn : Int) + 1), .int .i64 g.time, .slice none 0 0, .int .i64 at_, .int .i64 0] 73)) Wd.heap.size (lfE (NL, none, 0)).toArray 73) := Lib.hid (by rw [HEL.out]; exact Blk.new Wd _ 73)
        replace HBW := Lib.hid (stepB HBW.out hb)
        replace KT2 := Lib.hid (KT2.out.later hb)
        replace H2 := Lib.hid (H2.out.later hb)
        clear hb hHeld
        refine hK.out _ _ (⟨⟨_, H2.out.blk⟩, KT2.out⟩) (fun hHeld => ?_)
        clear hK K
        generalize Wd.alloc (.cells #[.int .i64 ta, .int .i64 ((cn : Int) + 1), .int .i64 g.time, .slice none 0 0, .int .i64 at_, .int .i64 0] 73) = We at *
        obtain ⟨qv, hqv⟩ : ∃ z, Wd.heap.size = z := ⟨_, rfl⟩
        rw [hqv] at KV ⊢
        clear hqv
        refine wpAnyH_ready (rs := [15]) (by kernel_rfl) (by simp) (AllReadyH.cons (o := { dst := some 77, op := Op.call { callee := Callee.builtin Builtin.append, args := #[Operand.tmp 66, Operand.tmp 76], argTypes := #[59, 59] }, type := 59, pos := "outright.go:173", after := #[{ on := 4, ground := Ground.data }, { on := 14, ground := Ground.data }], guard := none }) rfl (fun K hK => ?_) AllReadyH.nil)
        refine wp_append_row1 elemL (.tmp 66) (.tmp 76) rfl B (.slice x.lA n x.lc) n (g.lives.zip x.hs) rfl (by have := H2.out.li; rw [HN.out] at this; exact this) qv 1 (NL, none, 0) rfl KV.out.rsl (by have := HL2.out; omega) (by decide) (Nat.le_trans HBB.out (stepB HB.out HBW.out).size) ?_
        intro A6 c6 w6 ho6 hg6 hn6 _
        have hbn := H2.out.born (l := NL) (by rw [HNL.out]) (by rw [HN.out]; exact ho6) (by rw [HN.out]; exact hg6)
        rw [HN.out] at hbn
        have HBN := Lib.hid hbn
        have HPB6 : Hid (Blk w6 p #[.int .i64 g.time, .slice x.fA g.facts.length x.fc, .slice x.lA n x.lc] 61) := Lib.hid (by
          have h0 := H2.out.blk
          rw [HN.out] at h0
          exact (hneL H2.out (by rw [HN.out]; exact hg6) h0 (by decide)).trans h0)
        have KT6 : Hid (Blk w6 w.heap.size #[.int .i64 ta, .int .u8 1, .int .i64 tx, .string ke, .string en, .string va, .int .i64 li, .int .u8 (eg : Int)] 63) := Lib.hid ((hneL H2.out (by rw [HN.out]; exact hg6) KT2.out (by decide)).trans KT2.out)
        have HNP : Hid (w.heap.size ≠ p) := Lib.hid (fun e => by
          have h1 : We.heap[w.heap.size]? = some (.cells #[.int .i64 ta, .int .u8 1, .int .i64 tx, .string ke, .string en, .string va, .int .i64 li, .int .u8 (eg : Int)] 63 (0, 0)) := KT2.out
          have h2 : We.heap[p]? = some (.cells _ 61 (0, 0)) := H2.out.blk
          rw [e, h2] at h1
          simp only [Option.some.injEq, Obj.cells.injEq] at h1
          exact absurd h1.2.1 (by decide))
        clear ho6 hg6 hn6 hbn hHeld KV
        refine hK.out _ _ (⟨⟨_, HPB6.out⟩, KT6.out⟩) (fun hHeld => ?_)
        clear hK K
        refine wpAnyH_take (i := 16) (oi := { dst := some 78, op := Op.nilCheck (Operand.tmp 62), type := 0, pos := "outright.go:173", after := #[{ on := 0, ground := Ground.data }, { on := 0, ground := Ground.phase }, { on := 1, ground := Ground.phase }, { on := 2, ground := Ground.phase }, { on := 3, ground := Ground.phase }, { on := 4, ground := Ground.phase }, { on := 5, ground := Ground.phase }, { on := 6, ground := Ground.phase }, { on := 7, ground := Ground.phase }, { on := 8, ground := Ground.phase }, { on := 9, ground := Ground.phase }, { on := 10, ground := Ground.phase }, { on := 11, ground := Ground.phase }, { on := 12, ground := Ground.phase }, { on := 13, ground := Ground.phase }, { on := 14, ground := Ground.phase }, { on := 15, ground := Ground.phase }], guard := none }) (v := ?_) rfl (by kernel_rfl) (by kernel_rfl) (by kernel_rfl) (fun _ _ _ h => h) (Or.inl ⟨by rfl, ?_⟩) (by assumption) ?_
        rotate_left
        · intro W hSw
          clear hSw
          go_simp
          try with_reducible rfl
        simp only [Act.put, List.setIfInBounds_toArray, List.set_cons_zero, List.set_cons_succ]
        refine wpAnyH_take (i := 17) (oi := { dst := some 79, op := Op.fieldAddr 61 (Operand.tmp 78) 2, type := 0, pos := "outright.go:173", after := #[{ on := 16, ground := Ground.data }, { on := 0, ground := Ground.phase }, { on := 1, ground := Ground.phase }, { on := 2, ground := Ground.phase }, { on := 3, ground := Ground.phase }, { on := 4, ground := Ground.phase }, { on := 5, ground := Ground.phase }, { on := 6, ground := Ground.phase }, { on := 7, ground := Ground.phase }, { on := 8, ground := Ground.phase }, { on := 9, ground := Ground.phase }, { on := 10, ground := Ground.phase }, { on := 11, ground := Ground.phase }, { on := 12, ground := Ground.phase }, { on := 13, ground := Ground.phase }, { on := 14, ground := Ground.phase }, { on := 15, ground := Ground.phase }], guard := none }) (v := ?_) rfl (by kernel_rfl) (by kernel_rfl) (by kernel_rfl) (fun _ _ _ h => h) (Or.inl ⟨by rfl, ?_⟩) (by assumption) ?_
        rotate_left
        · intro W hSw
          clear hSw
          go_simp
          try with_reducible rfl
        simp only [Act.put, List.setIfInBounds_toArray, List.set_cons_zero, List.set_cons_succ]
        refine wpAnyH_ready (rs := [18]) (by kernel_rfl) (by simp) (AllReadyH.cons (o := { dst := none, op := Op.store 59 (Operand.tmp 79) (Operand.tmp 77), type := 0, pos := "outright.go:173", after := #[{ on := 17, ground := Ground.data }, { on := 15, ground := Ground.data }, { on := 15, ground := Ground.chain }, { on := 0, ground := Ground.phase }, { on := 1, ground := Ground.phase }, { on := 2, ground := Ground.phase }, { on := 3, ground := Ground.phase }, { on := 4, ground := Ground.phase }, { on := 5, ground := Ground.phase }, { on := 6, ground := Ground.phase }, { on := 7, ground := Ground.phase }, { on := 8, ground := Ground.phase }, { on := 9, ground := Ground.phase }, { on := 10, ground := Ground.phase }, { on := 11, ground := Ground.phase }, { on := 12, ground := Ground.phase }, { on := 13, ground := Ground.phase }, { on := 14, ground := Ground.phase }, { on := 15, ground := Ground.phase }], guard := none }) rfl (fun K hK => ?_) AllReadyH.nil)
        have cz := HPB6.out.cell 2
        have fz := HPB6.out.frozen 2
        simp only [List.getElem?_toArray, List.getElem?_cons_zero, List.getElem?_cons_succ] at cz
        go_simp
        clear cz fz hHeld
        refine hK.out _ _ (⟨⟨_, HPB6.out.set (j := 2) _⟩, KT6.out.other HNP.out _⟩) (fun hHeld => ?_)
        clear hK K
        refine wpAnyH_done (by kernel_rfl) (NoPanic.normal ?_) _
        clear hHeld
        have HFIN : Hid (LgK B w (w6.setCell ⟨p, 2, none⟩ (.slice A6 (n + 1) c6))) := Lib.hid ((LgK.of_below (stepB HB.out HBW.out)).tr HBN.out.2)
        generalize w6.setCell ⟨p, 2, none⟩ (.slice A6 (n + 1) c6) = w7 at *
        go_wp2
        refine bodyPost_end (results_none rfl _ _ _) rfl ?_
        exact ⟨rfl, _, by rw [HE.out]; exact HBN.out.1, HFIN.out⟩
      · go_simp
        have hb : Below Wd.heap.size Wd (Wd.alloc (.cells #[.int .i64 ta, .int .i64 ((cn : Int) + 1), .int .i64 g.time, .slice none 0 0, .int .i64 at_, .int .i64 0] 73)) := (Below.refl _ _).alloc (Nat.le_refl _) _
        have KV : Hid (Blk (Wd.alloc (.cells #[.int .i64 ta, .int .i64 ((cn : Int) + 1), .int .i64 g.time, .slice none 0 0, .int .i64 at_, .int .i64 0] 73)) Wd.heap.size (lfE (NL, none, 0)).toArray 73) := Lib.hid (by rw [HEL.out]; exact Blk.new Wd _ 73)
        replace HBW := Lib.hid (stepB HBW.out hb)
        replace KT2 := Lib.hid (KT2.out.later hb)
        replace H2 := Lib.hid (H2.out.later hb)
        clear hb hHeld
        refine hK.out _ _ (⟨⟨_, H2.out.blk⟩, KT2.out⟩) (fun hHeld => ?_)
        clear hK K
        generalize Wd.alloc (.cells #[.int .i64 ta, .int .i64 ((cn : Int) + 1), .int .i64 g.time, .slice none 0 0, .int .i64 at_, .int .i64 0] 73) = We at *
        obtain ⟨qv, hqv⟩ : ∃ z, Wd.heap.size = z := ⟨_, rfl⟩
        rw [hqv] at KV ⊢
        clear hqv
        refine wpAnyH_ready (rs := [4]) (by kernel_rfl) (by simp) (AllReadyH.cons (o := { dst := some 66, op := Op.load 59 (Operand.tmp 65), type := 59, pos := "outright.go:173", after := #[{ on := 3, ground := Ground.data }], guard := none }) rfl (fun K hK => ?_) AllReadyH.nil)
        have hl := H2.out.c0.2.2
        rw [HN.out] at hl
        go_simp
        clear hl hHeld
        refine hK.out _ _ (⟨⟨_, H2.out.blk⟩, KT2.out⟩) (fun hHeld => ?_)
        clear hK K
        refine wpAnyH_ready (rs := [15]) (by kernel_rfl) (by simp) (AllReadyH.cons (o := { dst := some 77, op := Op.call { callee := Callee.builtin Builtin.append, args := #[Operand.tmp 66, Operand.tmp 76], argTypes := #[59, 59] }, type := 59, pos := "outright.go:173", after := #[{ on := 4, ground := Ground.data }, { on := 14, ground := Ground.data }], guard := none }) rfl (fun K hK => ?_) AllReadyH.nil)
        refine wp_append_row1 elemL (.tmp 66) (.tmp 76) rfl B (.slice x.lA n x.lc) n (g.lives.zip x.hs) rfl (by have := H2.out.li; rw [HN.out] at this; exact this) qv 1 (NL, none, 0) rfl KV.out.rsl (by have := HL2.out; omega) (by decide) (Nat.le_trans HBB.out (stepB HB.out HBW.out).size) ?_
        intro A6 c6 w6 ho6 hg6 hn6 _
        have hbn := H2.out.born (l := NL) (by rw [HNL.out]) (by rw [HN.out]; exact ho6) (by rw [HN.out]; exact hg6)
        rw [HN.out] at hbn
        have HBN := Lib.hid hbn
        have HPB6 : Hid (Blk w6 p #[.int .i64 g.time, .slice x.fA g.facts.length x.fc, .slice x.lA n x.lc] 61) := Lib.hid (by
          have h0 := H2.out.blk
          rw [HN.out] at h0
          exact (hneL H2.out (by rw [HN.out]; exact hg6) h0 (by decide)).trans h0)
        have KT6 : Hid (Blk w6 w.heap.size #[.int .i64 ta, .int .u8 1, .int .i64 tx, .string ke, .string en, .string va, .int .i64 li, .int .u8 (eg : Int)] 63) := Lib.hid ((hneL H2.out (by rw [HN.out]; exact hg6) KT2.out (by decide)).trans KT2.out)
        have HNP : Hid (w.heap.size ≠ p) := Lib.hid (fun e => by
          have h1 : We.heap[w.heap.size]? = some (.cells #[.int .i64 ta, .int .u8 1, .int .i64 tx, .string ke, .string en, .string va, .int .i64 li, .int .u8 (eg : Int)] 63 (0, 0)) := KT2.out
          have h2 : We.heap[p]? = some (.cells _ 61 (0, 0)) := H2.out.blk
          rw [e, h2] at h1
          simp only [Option.some.injEq, Obj.cells.injEq] at h1
          exact absurd h1.2.1 (by decide))
        clear ho6 hg6 hn6 hbn hHeld KV
        refine hK.out _ _ (⟨⟨_, HPB6.out⟩, KT6.out⟩) (fun hHeld => ?_)
        clear hK K
        refine wpAnyH_take (i := 16) (oi := { dst := some 78, op := Op.nilCheck (Operand.tmp 62), type := 0, pos := "outright.go:173", after := #[{ on := 0, ground := Ground.data }, { on := 0, ground := Ground.phase }, { on := 1, ground := Ground.phase }, { on := 2, ground := Ground.phase }, { on := 3, ground := Ground.phase }, { on := 4, ground := Ground.phase }, { on := 5, ground := Ground.phase }, { on := 6, ground := Ground.phase }, { on := 7, ground := Ground.phase }, { on := 8, ground := Ground.phase }, { on := 9, ground := Ground.phase }, { on := 10, ground := Ground.phase }, { on := 11, ground := Ground.phase }, { on := 12, ground := Ground.phase }, { on := 13, ground := Ground.phase }, { on := 14, ground := Ground.phase }, { on := 15, ground := Ground.phase }], guard := none }) (v := ?_) rfl (by kernel_rfl) (by kernel_rfl) (by kernel_rfl) (fun _ _ _ h => h) (Or.inl ⟨by rfl, ?_⟩) (by assumption) ?_
        rotate_left
        · intro W hSw
          clear hSw
          go_simp
          try with_reducible rfl
        simp only [Act.put, List.setIfInBounds_toArray, List.set_cons_zero, List.set_cons_succ]
        refine wpAnyH_take (i := 17) (oi := { dst := some 79, op := Op.fieldAddr 61 (Operand.tmp 78) 2, type := 0, pos := "outright.go:173", after := #[{ on := 16, ground := Ground.data }, { on := 0, ground := Ground.phase }, { on := 1, ground := Ground.phase }, { on := 2, ground := Ground.phase }, { on := 3, ground := Ground.phase }, { on := 4, ground := Ground.phase }, { on := 5, ground := Ground.phase }, { on := 6, ground := Ground.phase }, { on := 7, ground := Ground.phase }, { on := 8, ground := Ground.phase }, { on := 9, ground := Ground.phase }, { on := 10, ground := Ground.phase }, { on := 11, ground := Ground.phase }, { on := 12, ground := Ground.phase }, { on := 13, ground := Ground.phase }, { on := 14, ground := Ground.phase }, { on := 15, ground := Ground.phase }], guard := none }) (v := ?_) rfl (by kernel_rfl) (by kernel_rfl) (by kernel_rfl) (fun _ _ _ h => h) (Or.inl ⟨by rfl, ?_⟩) (by assumption) ?_
        rotate_left
        · intro W hSw
          clear hSw
          go_simp
          try with_reducible rfl
        simp only [Act.put, List.setIfInBounds_toArray, List.set_cons_zero, List.set_cons_succ]
        refine wpAnyH_ready (rs := [18]) (by kernel_rfl) (by simp) (AllReadyH.cons (o := { dst := none, op := Op.store 59 (Operand.tmp 79) (Operand.tmp 77), type := 0, pos := "outright.go:173", after := #[{ on := 17, ground := Ground.data }, { on := 15, ground := Ground.data }, { on := 15, ground := Ground.chain }, { on := 0, ground := Ground.phase }, { on := 1, ground := Ground.phase }, { on := 2, ground := Ground.phase }, { on := 3, ground := Ground.phase }, { on := 4, ground := Ground.phase }, { on := 5, ground := Ground.phase }, { on := 6, ground := Ground.phase }, { on := 7, ground := Ground.phase }, { on := 8, ground := Ground.phase }, { on := 9, ground := Ground.phase }, { on := 10, ground := Ground.phase }, { on := 11, ground := Ground.phase }, { on := 12, ground := Ground.phase }, { on := 13, ground := Ground.phase }, { on := 14, ground := Ground.phase }, { on := 15, ground := Ground.phase }], guard := none }) rfl (fun K hK => ?_) AllReadyH.nil)
        have cz := HPB6.out.cell 2
        have fz := HPB6.out.frozen 2
        simp only [List.getElem?_toArray, List.getElem?_cons_zero, List.getElem?_cons_succ] at cz
        go_simp
        clear cz fz hHeld
        refine hK.out _ _ (⟨⟨_, HPB6.out.set (j := 2) _⟩, KT6.out.other HNP.out _⟩) (fun hHeld => ?_)
        clear hK K
        refine wpAnyH_done (by kernel_rfl) (NoPanic.normal ?_) _
        clear hHeld
        have HFIN : Hid (LgK B w (w6.setCell ⟨p, 2, none⟩ (.slice A6 (n + 1) c6))) := Lib.hid ((LgK.of_below (stepB HB.out HBW.out)).tr HBN.out.2)
        generalize w6.setCell ⟨p, 2, none⟩ (.slice A6 (n + 1) c6) = w7 at *
        go_wp2
        refine bodyPost_end (results_none rfl _ _ _) rfl ?_
        exact ⟨rfl, _, by rw [HE.out]; exact HBN.out.1, HFIN.out⟩
end Go.Proofs.Ytoinjnocopejjaa
