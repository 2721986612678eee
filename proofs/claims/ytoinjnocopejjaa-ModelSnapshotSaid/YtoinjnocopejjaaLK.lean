/- A note: ways that note nothing. -/
import Derived.Test.YtoinjnocopejjaaLJ
namespace Go.Proofs.Ytoinjnocopejjaa
open Go.ChangeShapes Go.WideShapes Go.ChangeAt Go.RowKit Go.Maps
set_option linter.unusedVariables false
set_option linter.unusedSimpArgs false
/-- the log behind a note, by where the transaction is -/
def noteI (g : Lg) (at_ t : Int) (x : Cl) (a : As) (ix : Int) : Lg :=
  if a.1 ≠ 0 ∨ (x.1 ≠ 1 ∧ ix < 0) then g
  else if x.1 = 1 then { g with lives := g.lives ++ [⟨t, (cntL t g.lives : Int) + 1, g.time, [], at_, 0⟩] }
  else if x.1 = 3 then addW g ix.toNat ⟨0, x.2.2.1, false, x.2.2.2.2.1⟩
  else if x.1 = 4 then (if a.2.1 = true then addW g ix.toNat ⟨0, x.2.2.1, true, emp⟩ else g)
  else if x.1 = 6 then
    (if (g.lives.getD ix.toNat lf0).ws = [] then overW g ix.toNat at_
     else { overW g ix.toNat at_ with time := g.time + 1, facts := g.facts ++ lastFs (g.time + 1) (g.lives.getD ix.toNat lf0).ws })
  else g
def NtEnd (B p : Nat) (g' : Lg) (w : World) (e : Ending) (w' : World) : Prop := e = .returned (.tuple #[]) ∧ ∃ x', LgAt w' B p g' x' ∧ LgK B w w'
set_option maxRecDepth 100000 in
set_option maxHeartbeats 1600000 in
theorem note_no (B p : Nat) (g : Lg) (x : LX) (at_ ta tx li er : Int) (ke en va av : ByteArray) (kn eg n c : Nat) (fo : Bool) (A : Option Addr) (prs : List Pr) (w : World) (h : LgAt w B p g x) (hl : g.lives.length ≤ 1000) (hB : B ≤ w.heap.size) (hway : er ≠ 0 ∨ (kn ≠ 1 ∧ findL g ta tx < 0)) (hno : noteI g at_ ta (kn, tx, ke, en, va, li, eg) (er, fo, av, prs) (findL g ta tx) = g) : Calls Try.prog 36 #[.pointer (some ⟨p, 0, none⟩), .int .i64 at_, .agg #[.int .i64 ta, .int .u8 (kn : Int), .int .i64 tx, .string ke, .string en, .string va, .int .i64 li, .int .u8 (eg : Int)], .agg #[.int .i64 er, .bool fo, .string av, .slice A n c]] w (NtEnd B p (noteL g at_ ta (kn, tx, ke, en, va, li, eg) (er, fo, av, prs)) w) := by
  have HNO := Lib.hid hno
  have HWAY := Lib.hid hway
  clear hno hway
  have hb2 : Below w.heap.size w ((w.alloc (.cells #[.int .i64 ta, .int .u8 (kn : Int), .int .i64 tx, .string ke, .string en, .string va, .int .i64 li, .int .u8 (eg : Int)] 63)).alloc (.cells #[.int .i64 er, .bool fo, .string av, .slice A n c] 33)) := ((Below.refl _ _).alloc (Nat.le_refl _) _).alloc (by simp) _
  have HB := Lib.hid hb2
  have KT : Hid (Blk ((w.alloc (.cells #[.int .i64 ta, .int .u8 (kn : Int), .int .i64 tx, .string ke, .string en, .string va, .int .i64 li, .int .u8 (eg : Int)] 63)).alloc (.cells #[.int .i64 er, .bool fo, .string av, .slice A n c] 33)) w.heap.size #[.int .i64 ta, .int .u8 (kn : Int), .int .i64 tx, .string ke, .string en, .string va, .int .i64 li, .int .u8 (eg : Int)] 63) := Lib.hid ((Blk.new w _ 63).alloc _)
  have KA : Hid (Blk ((w.alloc (.cells #[.int .i64 ta, .int .u8 (kn : Int), .int .i64 tx, .string ke, .string en, .string va, .int .i64 li, .int .u8 (eg : Int)] 63)).alloc (.cells #[.int .i64 er, .bool fo, .string av, .slice A n c] 33)) (w.heap.size + 1) #[.int .i64 er, .bool fo, .string av, .slice A n c] 33) := Lib.hid (Blk.new2 _ _ 33 (by simp))
  have H := Lib.hid (h.later hb2)
  have HL := Lib.hid hl
  have HBB := Lib.hid hB
  have HIX := Lib.hid (show ∀ ix, findL g ta tx = ix → noteL g at_ ta (kn, tx, ke, en, va, li, eg) (er, fo, av, prs) = noteI g at_ ta (kn, tx, ke, en, va, li, eg) (er, fo, av, prs) ix from fun ix e => by rw [← e]; rfl)
  obtain ⟨ix, hix⟩ : ∃ ix, findL g ta tx = ix := ⟨_, rfl⟩
  have HIY := Lib.hid hix
  have HI2 := Lib.hid (HIX.out ix hix)
  rw [HI2.out]
  obtain ⟨GR, hGR⟩ : ∃ GR, noteI g at_ ta (kn, tx, ke, en, va, li, eg) (er, fo, av, prs) ix = GR := ⟨_, rfl⟩
  have HGR := Lib.hid hGR
  rw [hGR]
  clear hb2 h hl hB hix HIX hGR HI2
  go_enter Try.func36, Try.ntmps36
  go_upto_region 1 with (fail)
  generalize ((w.alloc (.cells #[.int .i64 ta, .int .u8 (kn : Int), .int .i64 tx, .string ke, .string en, .string va, .int .i64 li, .int .u8 (eg : Int)] 63)).alloc (.cells #[.int .i64 er, .bool fo, .string av, .slice A n c] 33)) = w2 at *
  have z0 := KT.out.cell 0
  have z1 := KT.out.cell 1
  have z2 := KT.out.cell 2
  have z3 := KT.out.cell 3
  have z4 := KT.out.cell 4
  have z5 := KT.out.cell 5
  have z6 := KT.out.cell 6
  have z7 := KT.out.cell 7
  simp only [List.getElem?_toArray, List.getElem?_cons_zero, List.getElem?_cons_succ] at z0 z1 z2 z3 z4 z5 z6 z7
  go_wp2_with fail
  refine (find_any B p g x ta tx _ H.out HL.out).mono ?_
  rintro e w3 ⟨rfl, rfl⟩
  rw [HIY.out]
  have u0 := KA.out.cell 0
  have u1 := KA.out.cell 1
  have u2 := KA.out.cell 2
  simp only [List.getElem?_toArray, List.getElem?_cons_zero, List.getElem?_cons_succ] at u0 u1 u2
  have HE : Hid (GR = g) := Lib.hid (by rw [← HGR.out, ← HIY.out]; exact HNO.out)
  have hcase : er ≠ 0 ∨ (er = 0 ∧ kn ≠ 1 ∧ ix < 0) := by
    have hway := HWAY.out
    rw [HIY.out] at hway
    by_cases e : er = 0
    · exact .inr ⟨e, hway.resolve_left (fun h => h e)⟩
    · exact .inl e
  clear HNO HWAY
  rcases hcase with e0 | ⟨e0, e1, e2⟩
  · have b0 : (er != 0) = true := by rw [bne_iff_ne]; exact e0
    clear e0
    go_wp2
    refine bodyPost_end (results_none rfl _ _ _) rfl ?_
    exact ⟨rfl, x, by rw [HE.out]; exact H.out, LgK.of_below HB.out⟩
  · have b0 : (er != 0) = false := by rw [e0]; rfl
    have b1 : ((kn : Int) != 1) = true := by rw [bne_iff_ne]; omega
    have b2 : decide (ix < 0) = true := decide_eq_true e2
    clear e0 e1 e2
    go_wp2
    refine bodyPost_end (results_none rfl _ _ _) rfl ?_
    exact ⟨rfl, x, by rw [HE.out]; exact H.out, LgK.of_below HB.out⟩
set_option maxRecDepth 100000 in
set_option maxHeartbeats 1600000 in
theorem note_other (B p : Nat) (g : Lg) (x : LX) (at_ ta tx li er : Int) (ke en va av : ByteArray) (kn eg n c : Nat) (fo : Bool) (A : Option Addr) (prs : List Pr) (w : World) (h : LgAt w B p g x) (hl : g.lives.length ≤ 1000) (hB : B ≤ w.heap.size) (h0 : er = 0) (h1 : kn ≠ 1) (h3 : kn ≠ 3) (h4 : kn ≠ 4 ∨ fo = false) (h6 : kn ≠ 6) (hi : 0 ≤ findL g ta tx) : Calls Try.prog 36 #[.pointer (some ⟨p, 0, none⟩), .int .i64 at_, .agg #[.int .i64 ta, .int .u8 (kn : Int), .int .i64 tx, .string ke, .string en, .string va, .int .i64 li, .int .u8 (eg : Int)], .agg #[.int .i64 er, .bool fo, .string av, .slice A n c]] w (NtEnd B p (noteL g at_ ta (kn, tx, ke, en, va, li, eg) (er, fo, av, prs)) w) := by
  subst h0
  have H1 := Lib.hid h1
  have H3 := Lib.hid h3
  have H4 := Lib.hid h4
  have H6 := Lib.hid h6
  have HI := Lib.hid hi
  clear h1 h3 h4 h6 hi
  have hb2 : Below w.heap.size w ((w.alloc (.cells #[.int .i64 ta, .int .u8 (kn : Int), .int .i64 tx, .string ke, .string en, .string va, .int .i64 li, .int .u8 (eg : Int)] 63)).alloc (.cells #[.int .i64 0, .bool fo, .string av, .slice A n c] 33)) := ((Below.refl _ _).alloc (Nat.le_refl _) _).alloc (by simp) _
  have HB := Lib.hid hb2
  have KT : Hid (Blk ((w.alloc (.cells #[.int .i64 ta, .int .u8 (kn : Int), .int .i64 tx, .string ke, .string en, .string va, .int .i64 li, .int .u8 (eg : Int)] 63)).alloc (.cells #[.int .i64 0, .bool fo, .string av, .slice A n c] 33)) w.heap.size #[.int .i64 ta, .int .u8 (kn : Int), .int .i64 tx, .string ke, .string en, .string va, .int .i64 li, .int .u8 (eg : Int)] 63) := Lib.hid ((Blk.new w _ 63).alloc _)
  have KA : Hid (Blk ((w.alloc (.cells #[.int .i64 ta, .int .u8 (kn : Int), .int .i64 tx, .string ke, .string en, .string va, .int .i64 li, .int .u8 (eg : Int)] 63)).alloc (.cells #[.int .i64 0, .bool fo, .string av, .slice A n c] 33)) (w.heap.size + 1) #[.int .i64 0, .bool fo, .string av, .slice A n c] 33) := Lib.hid (Blk.new2 _ _ 33 (by simp))
  have H := Lib.hid (h.later hb2)
  have HL := Lib.hid hl
  have HBB := Lib.hid hB
  have HIX := Lib.hid (show ∀ ix, findL g ta tx = ix → noteL g at_ ta (kn, tx, ke, en, va, li, eg) (0, fo, av, prs) = noteI g at_ ta (kn, tx, ke, en, va, li, eg) (0, fo, av, prs) ix from fun ix e => by rw [← e]; rfl)
  obtain ⟨ix, hix⟩ : ∃ ix, findL g ta tx = ix := ⟨_, rfl⟩
  have HIY := Lib.hid hix
  have HI2 := Lib.hid (HIX.out ix hix)
  rw [HI2.out]
  obtain ⟨GR, hGR⟩ : ∃ GR, noteI g at_ ta (kn, tx, ke, en, va, li, eg) (0, fo, av, prs) ix = GR := ⟨_, rfl⟩
  have HGR := Lib.hid hGR
  rw [hGR]
  clear hb2 h hl hB hix HIX hGR HI2
  go_enter Try.func36, Try.ntmps36
  go_upto_region 1 with (fail)
  generalize ((w.alloc (.cells #[.int .i64 ta, .int .u8 (kn : Int), .int .i64 tx, .string ke, .string en, .string va, .int .i64 li, .int .u8 (eg : Int)] 63)).alloc (.cells #[.int .i64 0, .bool fo, .string av, .slice A n c] 33)) = w2 at *
  have z0 := KT.out.cell 0
  have z1 := KT.out.cell 1
  have z2 := KT.out.cell 2
  have z3 := KT.out.cell 3
  have z4 := KT.out.cell 4
  have z5 := KT.out.cell 5
  have z6 := KT.out.cell 6
  have z7 := KT.out.cell 7
  simp only [List.getElem?_toArray, List.getElem?_cons_zero, List.getElem?_cons_succ] at z0 z1 z2 z3 z4 z5 z6 z7
  go_wp2_with fail
  refine (find_any B p g x ta tx _ H.out HL.out).mono ?_
  rintro e w3 ⟨rfl, rfl⟩
  rw [HIY.out]
  have u0 := KA.out.cell 0
  have u1 := KA.out.cell 1
  have u2 := KA.out.cell 2
  simp only [List.getElem?_toArray, List.getElem?_cons_zero, List.getElem?_cons_succ] at u0 u1 u2
  have HE : Hid (GR = g) := Lib.hid (by
    rw [← HGR.out]
    unfold noteI
    simp only
    split
    · rfl
    rw [if_neg H1.out, if_neg H3.out]
    rcases H4.out with h4 | h4
    · rw [if_neg h4, if_neg H6.out]
    · by_cases e : kn = 4
      · rw [if_pos e, if_neg (by rw [h4]; decide)]
      · rw [if_neg e, if_neg H6.out])
  have b1 : ((kn : Int) != 1) = true := by rw [bne_iff_ne]; have := H1.out; omega
  have b2 : decide (ix < 0) = false := decide_eq_false (by have := HI.out; rw [HIY.out] at this; omega)
  have c1 : ((kn : Int) == 1) = false := by rw [beq_eq_false_iff_ne]; have := H1.out; omega
  have c3 : ((kn : Int) == 3) = false := by rw [beq_eq_false_iff_ne]; have := H3.out; omega
  have c6 : ((kn : Int) == 6) = false := by rw [beq_eq_false_iff_ne]; have := H6.out; omega
  have hc4 : ((kn : Int) == 4) = false ∨ (((kn : Int) == 4) = true ∧ fo = false) := by
    by_cases e : kn = 4
    · exact .inr ⟨by rw [e]; rfl, H4.out.resolve_left (fun hh => hh e)⟩
    · exact .inl (by rw [beq_eq_false_iff_ne]; omega)
  rcases hc4 with c4 | ⟨c4, hf⟩
  · go_wp2
    refine bodyPost_end (results_none rfl _ _ _) rfl ?_
    exact ⟨rfl, x, by rw [HE.out]; exact H.out, LgK.of_below HB.out⟩
  · rw [hf] at u1
    clear hf
    go_wp2
    refine bodyPost_end (results_none rfl _ _ _) rfl ?_
    exact ⟨rfl, x, by rw [HE.out]; exact H.out, LgK.of_below HB.out⟩
end Go.Proofs.Ytoinjnocopejjaa
