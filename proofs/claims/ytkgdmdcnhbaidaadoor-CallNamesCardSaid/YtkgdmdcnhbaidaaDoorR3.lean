/- CallNames: its walk. -/
import Derived.Test.YtkgdmdcnhbaidaaDoorFT
namespace Go.Proofs.YtkgdmdcnhbaidaaDoor
open Go.ChangeShapes Go.WideShapes Go.ChangeAt Go.RowKit
set_option linter.unusedVariables false
set_option linter.unusedSimpArgs false

def svc (s : ByteArray) : List Value := [.string s]
theorem svc_len (s : ByteArray) : (svc s).length = 1 := rfl
def allC (k : Nat) : Cl := (k, -3, { data := #[107] }, { data := #[255, 0] }, { data := #[118] }, 7, 2)
def allE (g : Nat) : Cl := (9, -3, { data := #[107] }, { data := #[255, 0] }, { data := #[118] }, 7, g)
def txD : List ByteArray := [{ data := #[] }, { data := #[98, 101, 103, 105, 110] }, { data := #[103, 101, 116, 32, 45, 51, 32, 54, 98] }, { data := #[112, 117, 116, 32, 45, 51, 32, 54, 98, 32, 55, 54] }, { data := #[100, 101, 108, 101, 116, 101, 32, 45, 51, 32, 54, 98] }, { data := #[115, 99, 97, 110, 32, 45, 51, 32, 54, 98, 32, 102, 102, 48, 48, 32, 55] }, { data := #[99, 111, 109, 109, 105, 116, 32, 45, 51] }, { data := #[97, 98, 111, 114, 116, 32, 45, 51] }, { data := #[118, 97, 99, 117, 117, 109] }, { data := #[109, 105, 103, 114, 97, 116, 101, 32, 50] }, { data := #[] }]
def npD : List ByteArray := [{ data := #[] }, { data := #[32] }, { data := #[98, 101, 103, 105, 110, 32, 98, 101, 103, 105, 110] }, { data := #[66, 101, 103, 105, 110] }, { data := #[103, 101, 116] }, { data := #[103, 101, 116, 32, 49, 32, 54] }, { data := #[103, 101, 116, 32, 49, 32, 54, 66] }, { data := #[103, 101, 116, 32, 49, 32, 54, 103] }, { data := #[103, 101, 116, 32, 49, 32, 54, 49, 32, 54, 49] }, { data := #[103, 101, 116, 32, 32, 49, 32, 54, 49] }, { data := #[103, 101, 116, 32, 49, 32, 45, 45, 32] }, { data := #[103, 101, 116, 32, 49, 32, 45, 54, 49] }, { data := #[103, 101, 116, 32, 45, 48, 32, 54, 49] }, { data := #[103, 101, 116, 32, 43, 49, 32, 54, 49] }, { data := #[112, 117, 116, 32, 49, 32, 54, 49] }, { data := #[115, 99, 97, 110, 32, 49, 32, 45, 32, 45, 32, 45, 48] }, { data := #[115, 99, 97, 110, 32, 49, 32, 45, 32, 45] }, { data := #[99, 111, 109, 109, 105, 116] }, { data := #[99, 111, 109, 109, 105, 116, 32, 49, 32] }, { data := #[109, 105, 103, 114, 97, 116, 101, 32, 48] }, { data := #[109, 105, 103, 114, 97, 116, 101, 32, 51] }, { data := #[109, 105, 103, 114, 97, 116, 101, 32, 50, 53, 56] }, { data := #[118, 97, 99, 117, 117, 109, 32, 49] }, { data := #[103, 101, 116, 32, 57, 57, 57, 57, 57, 57, 57, 57, 57, 57, 57, 57, 57, 57, 57, 57, 57, 57, 57, 57, 32, 54, 49] }, { data := #[98, 101, 103, 105, 110, 10] }, { data := #[120] }]
def naD : List ByteArray := [{ data := #[] }, { data := #[48] }, { data := #[48, 32, 48] }, { data := #[48, 32, 50, 32, 45] }, { data := #[48, 32, 49, 32, 55] }, { data := #[48, 48, 32, 49, 32, 45] }, { data := #[48, 32, 49, 32, 45, 32, 54, 49] }, { data := #[48, 32, 49, 32, 45, 32, 54, 49, 32, 54, 50, 32, 54, 51] }, { data := #[48, 32, 49, 32, 45, 32, 32, 54, 49, 32, 54, 50] }, { data := #[48, 32, 48, 32, 45, 32] }, { data := #[97, 32, 48, 32, 45] }]
def mayK (k : Nat) : Bool := decide (1 ≤ k) && decide (k ≤ 9)
def allOK (k : Nat) : Bool := decide (showP (allC k) = txD.getD k emp) && (okP (txD.getD k emp) == mayK k) && (mayC (allC k) == mayK k) && (!mayK k || decide (clP (txD.getD k emp) = clnC (allC k))) && ((nmK k).1 == (decide (2 ≤ k) && decide (k ≤ 7))) && sameC (allC k) (clnC (allC k)) && decide ((joinW (showL (allC k))).size ≤ 1000) && decide ((txD.getD k emp).size ≤ 1000)
theorem all_ok : ∀ k : Fin 11, allOK k.1 = true := by decide +kernel
theorem np_ok : npD.all (fun s => !okP s && decide (s.size ≤ 1000)) = true := by decide +kernel
theorem na_ok : naD.all (fun s => !okA s && decide (s.size ≤ 1000)) = true := by decide +kernel
theorem eng_ok : ([0, 3, 255] : List Nat).all (fun g => !mayC (allE g)) = true := by decide +kernel
theorem last_ok : okA { data := #[45, 55, 32, 48, 32, 45, 32, 54, 49, 32, 45, 32, 45, 32, 54, 50] } = true ∧ asP { data := #[45, 55, 32, 48, 32, 45, 32, 54, 49, 32, 45, 32, 45, 32, 54, 50] } = (-7, false, emp, [({ data := #[97] }, emp), (emp, { data := #[98] })]) := by decide +kernel
theorem idx25 (g m c k : Nat) (i : Int) (hi : i = (k : Int)) (h : k < m) (W : World) : (Instr.indexAt 25 (.slice (some ⟨g, 0, none⟩) m c) (.int .i64 i)).run Tryd.prog W = .ok (.pointer (some ⟨g, k, none⟩)) W := by
  subst hi
  have h1 : (0 : Int) ≤ (k : Int) ∧ (k : Int) < (m : Int) := by omega
  go_simp
theorem idx25u (g m c k : Nat) (i : Int) (hi : i = (k : Int)) (h : k < m) (W : World) : (Instr.indexAt 25 (.slice (some ⟨g, 0, none⟩) m c) (.int .u8 i)).run Tryd.prog W = .ok (.pointer (some ⟨g, k, none⟩)) W := by
  subst hi
  have h1 : (0 : Int) ≤ (k : Int) ∧ (k : Int) < (m : Int) := by omega
  go_simp
theorem sl_at {W : World} {g n k : Nat} {L : List ByteArray} {s : ByteArray} (h : RSl svc 1 W (some ⟨g, 0, none⟩) n L) (hk : L[k]? = some s) : W.cell? ⟨g, k, none⟩ = some (.string s) := by
  have hl := (List.getElem?_eq_some_iff.1 hk).1
  obtain ⟨g', off, e, _, hc⟩ := h.2 (by have := h.1; omega)
  cases e
  have h2 := hc k s hk 0 (by decide)
  rw [Nat.zero_add, Nat.mul_one, Nat.add_zero] at h2
  exact h2
theorem sl_keep {W : World} {g n q j : Nat} {L : List ByteArray} {v : Value} (h : RSl svc 1 W (some ⟨g, 0, none⟩) n L) (hq : g ≠ q) : RSl svc 1 (W.setCell ⟨q, j, none⟩ v) (some ⟨g, 0, none⟩) n L :=
  h.keep (by simp [World.setCell]) (fun x e => by cases e; exact Below.heap_setCell W ⟨q, j, none⟩ v g hq)
/-- what lies while the names are gone through: the call px, the texts pt -/
structure NW (w W : World) (px pt : Nat) (z g : Int) : Prop where
  bx : Blk W px #[.int .u8 z, .int .i64 (-3), .string { data := #[107] }, .string { data := #[255, 0] }, .string { data := #[118] }, .int .i64 7, .int .u8 g] 24
  tx : RSl svc 1 W (some ⟨pt, 0, none⟩) 11 txD
  gl : Gl W
  lo : Below w.heap.size w W
  o1 : w.heap.size ≤ px
  o2 : pt ≠ px
  o3 : 8 ≤ px
theorem NW.later {w W W' : World} {px pt : Nat} {z g : Int} (h : NW w W px pt z g) (hb : Below W.heap.size W W') : NW w W' px pt z g := ⟨h.bx.later hb, h.tx.later hb, h.gl.later hb, stepB h.lo hb, h.o1, h.o2, h.o3⟩
theorem NW.kind {w W : World} {px pt : Nat} {z g : Int} (h : NW w W px pt z g) (k : Int) : NW w (W.setCell ⟨px, 0, none⟩ (.int .u8 k)) px pt k g :=
  ⟨h.bx.set (j := 0) (.int .u8 k), sl_keep h.tx h.o2, h.gl.grown (p := px) (grown_set _ _ _ _) h.o3, h.lo.setCell (p := ⟨px, 0, none⟩) h.o1 _, h.o1, h.o2, h.o3⟩
theorem NW.eng {w W : World} {px pt : Nat} {z g : Int} (h : NW w W px pt z g) (k : Int) : NW w (W.setCell ⟨px, 6, none⟩ (.int .u8 k)) px pt z k :=
  ⟨h.bx.set (j := 6) (.int .u8 k), sl_keep h.tx h.o2, h.gl.grown (p := px) (grown_set _ _ _ _) h.o3, h.lo.setCell (p := ⟨px, 6, none⟩) h.o1 _, h.o1, h.o2, h.o3⟩
set_option maxRecDepth 100000 in
set_option maxHeartbeats 16000000 in
theorem names_walk (w : World) (hg : Gl w) : Calls Tryd.prog 3 #[] w fun e w' => e = .returned (.bool true) ∧ Below w.heap.size w w' := by
  have HG := Lib.hid hg
  have HLO := Lib.hid hg.lo
  have HB : Hid (Below w.heap.size w w) := Lib.hid (Below.refl _ _)
  clear hg
  go_enter Tryd.func3, Tryd.ntmps3
  have HCL_ := Lib.hid (works_any w HG.out)
  go_wp2_with fail
  refine HCL_.out.mono ?_
  rintro e w4 ⟨rfl, hb⟩
  replace HG := Lib.hid (HG.out.later hb)
  replace HB := Lib.hid (stepB HB.out hb)
  clear hb HCL_
  have b1 : Below w4.heap.size w4 (w4.alloc (.cells #[.int .u8 0, .int .i64 (-3), .string { data := #[107] }, .string { data := #[255, 0] }, .string { data := #[118] }, .int .i64 7, .int .u8 2] 24)) := (Below.refl _ _).alloc (Nat.le_refl _) _
  have b2 : Below (w4.alloc (.cells #[.int .u8 0, .int .i64 (-3), .string { data := #[107] }, .string { data := #[255, 0] }, .string { data := #[118] }, .int .i64 7, .int .u8 2] 24)).heap.size (w4.alloc (.cells #[.int .u8 0, .int .i64 (-3), .string { data := #[107] }, .string { data := #[255, 0] }, .string { data := #[118] }, .int .i64 7, .int .u8 2] 24)) ((w4.alloc (.cells #[.int .u8 0, .int .i64 (-3), .string { data := #[107] }, .string { data := #[255, 0] }, .string { data := #[118] }, .int .i64 7, .int .u8 2] 24)).alloc (.cells #[.string { data := #[] }, .string { data := #[98, 101, 103, 105, 110] }, .string { data := #[103, 101, 116, 32, 45, 51, 32, 54, 98] }, .string { data := #[112, 117, 116, 32, 45, 51, 32, 54, 98, 32, 55, 54] }, .string { data := #[100, 101, 108, 101, 116, 101, 32, 45, 51, 32, 54, 98] }, .string { data := #[115, 99, 97, 110, 32, 45, 51, 32, 54, 98, 32, 102, 102, 48, 48, 32, 55] }, .string { data := #[99, 111, 109, 109, 105, 116, 32, 45, 51] }, .string { data := #[97, 98, 111, 114, 116, 32, 45, 51] }, .string { data := #[118, 97, 99, 117, 117, 109] }, .string { data := #[109, 105, 103, 114, 97, 116, 101, 32, 50] }, .string { data := #[] }] 9)) := (Below.refl _ _).alloc (Nat.le_refl _) _
  have HNW : Hid (NW w ((w4.alloc (.cells #[.int .u8 0, .int .i64 (-3), .string { data := #[107] }, .string { data := #[255, 0] }, .string { data := #[118] }, .int .i64 7, .int .u8 2] 24)).alloc (.cells #[.string { data := #[] }, .string { data := #[98, 101, 103, 105, 110] }, .string { data := #[103, 101, 116, 32, 45, 51, 32, 54, 98] }, .string { data := #[112, 117, 116, 32, 45, 51, 32, 54, 98, 32, 55, 54] }, .string { data := #[100, 101, 108, 101, 116, 101, 32, 45, 51, 32, 54, 98] }, .string { data := #[115, 99, 97, 110, 32, 45, 51, 32, 54, 98, 32, 102, 102, 48, 48, 32, 55] }, .string { data := #[99, 111, 109, 109, 105, 116, 32, 45, 51] }, .string { data := #[97, 98, 111, 114, 116, 32, 45, 51] }, .string { data := #[118, 97, 99, 117, 117, 109] }, .string { data := #[109, 105, 103, 114, 97, 116, 101, 32, 50] }, .string { data := #[] }] 9)) w4.heap.size (w4.heap.size + 1) 0 2) := Lib.hid ⟨(Blk.new _ _ _).later b2, Blk.rslL (enc := svc) (L := txD) svc_len (Blk.new2 _ _ 9 (by simp)), (HG.out.later b1).later b2, stepB (stepB HB.out b1) b2, HB.out.size, by omega, Nat.le_trans HLO.out HB.out.size⟩
  clear b1 b2 HG HB
  go_upto_block 0 with (fail)
  generalize ((w4.alloc (.cells #[.int .u8 0, .int .i64 (-3), .string { data := #[107] }, .string { data := #[255, 0] }, .string { data := #[118] }, .int .i64 7, .int .u8 2] 24)).alloc (.cells #[.string { data := #[] }, .string { data := #[98, 101, 103, 105, 110] }, .string { data := #[103, 101, 116, 32, 45, 51, 32, 54, 98] }, .string { data := #[112, 117, 116, 32, 45, 51, 32, 54, 98, 32, 55, 54] }, .string { data := #[100, 101, 108, 101, 116, 101, 32, 45, 51, 32, 54, 98] }, .string { data := #[115, 99, 97, 110, 32, 45, 51, 32, 54, 98, 32, 102, 102, 48, 48, 32, 55] }, .string { data := #[99, 111, 109, 109, 105, 116, 32, 45, 51] }, .string { data := #[97, 98, 111, 114, 116, 32, 45, 51] }, .string { data := #[118, 97, 99, 117, 117, 109] }, .string { data := #[109, 105, 103, 114, 97, 116, 101, 32, 50] }, .string { data := #[] }] 9)) = w5 at *
  obtain ⟨px, hpx⟩ : ∃ x, w4.heap.size = x := ⟨_, rfl⟩
  obtain ⟨pt, hpt⟩ : ∃ x, px + 1 = x := ⟨_, rfl⟩
  rw [hpx, hpt] at HNW
  rw [hpx]
  try rw [hpt]
  clear hpx hpt
  go_wp2
  go_loopw [3] (fun i wr => ∃ (k : Nat) (z : Int), k ≤ 11 ∧ i = .int .u8 k ∧ NW w wr px pt z 2) (fun i _ => 11 - (intOf i).toNat)
  case atStart => exact ⟨0, 0, Nat.zero_le _, rfl, HNW.out⟩
  case round =>
    obtain ⟨k, z, hk, rfl, hn⟩ := hrel
    have HN := Lib.hid hn
    clear hn HNW
    by_cases hlt : k < 11
    · have d2 : decide ((k : Int) ≤ 10) = true := decide_eq_true (by omega)
      have wk : IntKind.u8.wrap ((k : Int) + 1) = (k : Int) + 1 := by rw [IntKind.wrap_u8]; omega
      have i1 := idx25u pt 11 11 k (k : Int) rfl hlt
      have HOK : Hid (allOK k = true) := Lib.hid (all_ok ⟨k, hlt⟩)
      have hrk : txD[k]? = some (txD.getD k emp) := by rw [List.getD_eq_getElem?_getD, List.getElem?_eq_getElem (show k < txD.length from hlt)]; rfl
      have c0 := HN.out.bx.cell 0
      simp only [List.getElem?_toArray, List.getElem?_cons_zero, List.getElem?_cons_succ] at c0
      have f0 := HN.out.bx.frozen 0
      go_upto_region 9 with (fail)
      have HN2 := Lib.hid (HN.out.kind (k : Int))
      clear c0 f0 HN
      generalize wr.setCell ⟨px, 0, none⟩ (.int .u8 (k : Int)) = w6 at *
      have t0 := sl_at HN2.out.tx hrk
      have HRK := Lib.hid hrk
      obtain ⟨s, hs⟩ : ∃ s, txD.getD k emp = s := ⟨_, rfl⟩
      rw [hs] at t0 HRK
      have HS := Lib.hid hs
      clear hrk hs
      obtain ⟨c3_, hc3⟩ : ∃ c, clnC (allC k) = c := ⟨_, rfl⟩
      have HAL : Hid (showP (allC k) = s ∧ okP s = mayK k ∧ mayC (allC k) = mayK k ∧ (mayK k = true → clP s = c3_) ∧ (nmK k).1 = (decide (2 ≤ k) && decide (k ≤ 7)) ∧ sameC (allC k) c3_ = true ∧ (joinW (showL (allC k))).size ≤ 1000 ∧ s.size ≤ 1000) := Lib.hid (by
        have h := HOK.out
        unfold allOK at h
        rw [HS.out, hc3] at h
        simp only [Bool.and_eq_true, Bool.or_eq_true, decide_eq_true_eq, beq_iff_eq, Bool.not_eq_true'] at h
        obtain ⟨⟨⟨⟨⟨⟨⟨h1, h2⟩, h3⟩, h4⟩, h5⟩, h6⟩, h7⟩, h8⟩ := h
        exact ⟨h1, h2, h3, fun hm => by rcases h4 with h4 | h4; · rw [hm] at h4; cases h4
                                        · exact h4, h5, h6, h7, h8⟩)
      have HC3 : Hid (clnC (allC k) = c3_) := Lib.hid hc3
      clear hc3 HOK HS
      obtain ⟨kn3, tx3, ke3, en3, va3, li3, eg3⟩ := c3_
      rcases (show k = 0 ∨ k = 1 ∨ (2 ≤ k ∧ k ≤ 7) ∨ (8 ≤ k ∧ k ≤ 9) ∨ k = 10 by omega) with hk0 | hk1 | hk2 | hk8 | hk10
      · have HKC : Hid (0 ≤ k ∧ k ≤ 0) := Lib.hid (by omega)
        clear hk0
        have m1 : mayK k = false := by have hkc := HKC.out; unfold mayK; simp; omega
        have HPA := parse_any s w6 (by have := HAL.out.2.2.2.2.2.2.2; omega) HN2.out.gl
        rw [parV_eq] at HPA
        rw [show parC s = cl0 by unfold parC; rw [HAL.out.2.1, m1]; rfl, show parE s = 4 by unfold parE; rw [HAL.out.2.1, m1]; rfl] at HPA
        unfold clV cl0 emp at HPA
        simp only at HPA
        have HPB := Lib.hid HPA
        clear HPA
        go_wp2_with fail
        refine HPB.out.mono ?_
        rintro e w7 ⟨rfl, hb⟩
        have hby : Below w7.heap.size w7 (w7.alloc (.cells #[.int .u8 0, .int .i64 0, .string { data := #[] }, .string { data := #[] }, .string { data := #[] }, .int .i64 0, .int .u8 0] 24)) := (Below.refl _ _).alloc (Nat.le_refl _) _
        have HY : Hid (Blk (w7.alloc (.cells #[.int .u8 0, .int .i64 0, .string { data := #[] }, .string { data := #[] }, .string { data := #[] }, .int .i64 0, .int .u8 0] 24)) w7.heap.size #[.int .u8 0, .int .i64 0, .string { data := #[] }, .string { data := #[] }, .string { data := #[] }, .int .i64 0, .int .u8 0] 24) := Blk.new _ _ _
        have HN3 := Lib.hid ((HN2.out.later hb).later hby)
        clear hb hby HPB t0 HN2
        go_upto_region 10 with (fail)
        generalize w7.alloc (.cells #[.int .u8 0, .int .i64 0, .string { data := #[] }, .string { data := #[] }, .string { data := #[] }, .int .i64 0, .int .u8 0] 24) = w8 at *
        obtain ⟨py, hpy⟩ : ∃ x, w7.heap.size = x := ⟨_, rfl⟩
        rw [hpy] at HY ⊢
        clear hpy
        have p0 : decide ((0 : Int) < (k : Int)) = false := by have hkc := HKC.out; simp; omega
        have p0' : decide (0 < k) = false := by have hkc := HKC.out; simp; omega
        have g1 : decide ((1 : Int) < (k : Int)) = false := by have hkc := HKC.out; simp; omega

        go_upto_region 11 with (fail)
        have HSHW : Hid (∀ V, Gl V → Calls Tryd.prog 12 #[.agg #[.int .u8 (k : Int), .int .i64 (-3), .string { data := #[107] }, .string { data := #[255, 0] }, .string { data := #[118] }, .int .i64 7, .int .u8 2]] V fun e w' => e = .returned (.string s) ∧ Below V.heap.size V w') := Lib.hid (fun V hV => by
          have hm9 : (10 : Nat) ≤ 100000 := by decide
          have h := show_any (allC k) V ⟨by show k ≤ 255; omega, by show (2 : Nat) ≤ 255; decide, by show (-9223372036854775808 : Int) ≤ -3 ∧ (-3 : Int) ≤ 9223372036854775807; omega, by show (-9223372036854775808 : Int) ≤ 7 ∧ (7 : Int) ≤ 9223372036854775807; omega, by show (1 : Nat) ≤ 100000; decide, by show (2 : Nat) ≤ 100000; decide, by show (1 : Nat) ≤ 100000; decide⟩ hV (by have := HAL.out.2.2.2.2.2.2.1; omega)
          rw [HAL.out.1] at h
          exact h)
        have HMAY : Hid (∀ V, Gl V → Calls Tryd.prog 13 #[.agg #[.int .u8 (k : Int), .int .i64 (-3), .string { data := #[107] }, .string { data := #[255, 0] }, .string { data := #[118] }, .int .i64 7, .int .u8 2]] V fun e w' => e = .returned (.int .i64 1) ∧ Below V.heap.size V w') := Lib.hid (fun V hV => by
          have h := may_any (allC k) V (by show k ≤ 255; omega) (by show (2 : Nat) ≤ 255; decide) hV
          rw [HAL.out.2.2.1, m1] at h
          exact h)
        have HCLN : Hid (∀ V, Gl V → Calls Tryd.prog 14 #[.agg #[.int .u8 (k : Int), .int .i64 (-3), .string { data := #[107] }, .string { data := #[255, 0] }, .string { data := #[118] }, .int .i64 7, .int .u8 2]] V fun e w' => e = .returned (.agg #[.int .u8 (kn3 : Int), .int .i64 tx3, .string ke3, .string en3, .string va3, .int .i64 li3, .int .u8 (eg3 : Int)]) ∧ Below V.heap.size V w') := Lib.hid (fun V hV => by
          have h := clean_any k (-3) { data := #[107] } { data := #[255, 0] } { data := #[118] } 7 2 V (by omega) hV
          rw [show clnC (k, -3, { data := #[107] }, { data := #[255, 0] }, { data := #[118] }, 7, 2) = (kn3, tx3, ke3, en3, va3, li3, eg3) from HC3.out] at h
          exact h)
        have HSAM : Hid (∀ V, Gl V → Calls Tryd.prog 16 #[.agg #[.int .u8 (k : Int), .int .i64 (-3), .string { data := #[107] }, .string { data := #[255, 0] }, .string { data := #[118] }, .int .i64 7, .int .u8 2], .agg #[.int .u8 (kn3 : Int), .int .i64 tx3, .string ke3, .string en3, .string va3, .int .i64 li3, .int .u8 (eg3 : Int)]] V fun e w' => e = .returned (.bool true) ∧ Below V.heap.size V w') := Lib.hid (fun V hV => by
          have hk3 : kn3 ≤ 255 := by
            have h1 := congrArg (fun z : Cl => z.1) HC3.out
            have h2 : k = kn3 := h1
            omega
          have h := same_any k (-3) { data := #[107] } { data := #[255, 0] } { data := #[118] } 7 2 kn3 tx3 ke3 en3 va3 li3 eg3 V (by omega) hk3 hV
          rw [show sameC (k, -3, { data := #[107] }, { data := #[255, 0] }, { data := #[118] }, 7, 2) (kn3, tx3, ke3, en3, va3, li3, eg3) = true from HAL.out.2.2.2.2.2.1] at h
          exact h)
        have HNEE : Hid (∀ V, Gl V → Calls Tryd.prog 15 #[.int .u8 (k : Int)] V fun e w' => e = .returned (.bool false) ∧ Below V.heap.size V w') := Lib.hid (fun V hV => by
          have h := needs_any k V (by omega) hV
          rw [HAL.out.2.2.2.2.1, show (decide (2 ≤ k) && decide (k ≤ 7)) = false by have hkc := HKC.out; simp; omega] at h
          exact h)
        have HNQ : Hid (∀ V : World, (binOp .neq 24 (.agg #[.int .u8 (kn3 : Int), .int .i64 tx3, .string ke3, .string en3, .string va3, .int .i64 li3, .int .u8 (eg3 : Int)]) (.agg #[.int .u8 (kn3 : Int), .int .i64 tx3, .string ke3, .string en3, .string va3, .int .i64 li3, .int .u8 (eg3 : Int)])).run Tryd.prog V = .ok (.bool false) V) := Lib.hid (fun V => by
          have h := neq24 (kn3, tx3, ke3, en3, va3, li3, eg3) (kn3, tx3, ke3, en3, va3, li3, eg3) V
          rw [decide_eq_true rfl] at h
          exact h)
        have HRK2 := HRK
        clear m1 d2
        refine wp_region_noPanic ?_
        obtain ⟨W0, rfl⟩ : ∃ W0 : World, W0 = w8 := ⟨_, rfl⟩
        refine wp_region_held_drew (S := fun W => Below W0.heap.size W0 W) (by kernel_rfl) (Below.drew (Below.refl _ _)) (fun hHeld => ?_)
        have HH := Lib.hid hHeld
        have HBX := Lib.hid HN3.out.bx
        refine wpAnyH_take (i := 0) (oi := { dst := some 49, op := Op.load 24 (Operand.tmp 1), type := 24, pos := "outright.go:33", after := #[], guard := none }) (v := ?_) rfl (by kernel_rfl) (by kernel_rfl) (by kernel_rfl) (fun _ _ _ h => h) (Or.inl ⟨by rfl, ?_⟩) (by assumption) ?_
        rotate_left
        · intro W hSw
          have x0 := (HBX.out.later hSw).cell 0
          have x1 := (HBX.out.later hSw).cell 1
          have x2 := (HBX.out.later hSw).cell 2
          have x3 := (HBX.out.later hSw).cell 3
          have x4 := (HBX.out.later hSw).cell 4
          have x5 := (HBX.out.later hSw).cell 5
          have x6 := (HBX.out.later hSw).cell 6
          simp only [List.getElem?_toArray, List.getElem?_cons_zero, List.getElem?_cons_succ] at x0 x1 x2 x3 x4 x5 x6
          go_simp
          try with_reducible rfl
        simp only [Act.put, List.setIfInBounds_toArray, List.set_cons_zero, List.set_cons_succ]
        refine wpAnyH_take (i := 2) (oi := { dst := some 51, op := Op.move (Operand.tmp 2), type := 25, pos := "outright.go:33", after := #[], guard := none }) (v := ?_) rfl (by kernel_rfl) (by kernel_rfl) (by kernel_rfl) (fun _ _ _ h => h) (Or.inl ⟨by rfl, ?_⟩) (by assumption) ?_
        rotate_left
        · intro W hSw
          clear hSw
          go_simp
          try with_reducible rfl
        simp only [Act.put, List.setIfInBounds_toArray, List.set_cons_zero, List.set_cons_succ]
        refine wpAnyH_take (i := 3) (oi := { dst := some 52, op := Op.move (Operand.tmp 3), type := 5, pos := "outright.go:33", after := #[], guard := none }) (v := ?_) rfl (by kernel_rfl) (by kernel_rfl) (by kernel_rfl) (fun _ _ _ h => h) (Or.inl ⟨by rfl, ?_⟩) (by assumption) ?_
        rotate_left
        · intro W hSw
          clear hSw
          go_simp
          try with_reducible rfl
        simp only [Act.put, List.setIfInBounds_toArray, List.set_cons_zero, List.set_cons_succ]
        refine wpAnyH_take (i := 4) (oi := { dst := some 53, op := Op.indexAddr 25 (Operand.tmp 51) (Operand.tmp 52), type := 0, pos := "outright.go:33", after := #[{ on := 2, ground := Ground.data }, { on := 3, ground := Ground.data }], guard := none }) (v := ?_) rfl (by kernel_rfl) (by kernel_rfl) (by kernel_rfl) (fun _ _ _ h => h) (Or.inl ⟨by rfl, ?_⟩) (by assumption) ?_
        rotate_left
        · intro W hSw
          clear hSw
          have i2 := i1
          go_simp
          try with_reducible rfl
        simp only [Act.put, List.setIfInBounds_toArray, List.set_cons_zero, List.set_cons_succ]
        refine wpAnyH_take (i := 5) (oi := { dst := some 54, op := Op.load 9 (Operand.tmp 53), type := 9, pos := "outright.go:33", after := #[{ on := 4, ground := Ground.data }], guard := none }) (v := ?_) rfl (by kernel_rfl) (by kernel_rfl) (by kernel_rfl) (fun _ _ _ h => h) (Or.inl ⟨by rfl, ?_⟩) (by assumption) ?_
        rotate_left
        · intro W hSw
          have t0 := sl_at (HN3.out.tx.later hSw) HRK2.out
          go_simp
          try with_reducible rfl
        simp only [Act.put, List.setIfInBounds_toArray, List.set_cons_zero, List.set_cons_succ]
        refine wpAnyH_ready (rs := [1]) (by kernel_rfl) (by simp) (AllReadyH.cons (o := { dst := some 50, op := Op.call { callee := Callee.value (Operand.func 12), args := #[Operand.tmp 49], argTypes := #[24] }, type := 9, pos := "outright.go:33", after := #[{ on := 0, ground := Ground.data }], guard := none }) rfl (fun K hK => ?_) AllReadyH.nil)
        have HCL := Lib.hid (HSHW.out _ (HN3.out.gl.later HH.out))
        go_simp
        refine HCL.out.mono ?_
        rintro e Wa ⟨rfl, hb⟩
        replace HH := Lib.hid (stepB HH.out hb)
        clear hb HCL hHeld
        refine hK.out _ _ HH.out (fun hHeld => ?_)
        clear hK K
        refine wpAnyH_take (i := 6) (oi := { dst := some 55, op := Op.binOp BinOp.neq 9 (Operand.tmp 50) (Operand.tmp 54) 9, type := 4, pos := "outright.go:33", after := #[{ on := 1, ground := Ground.data }, { on := 5, ground := Ground.data }], guard := none }) (v := ?_) rfl (by kernel_rfl) (by kernel_rfl) (by kernel_rfl) (fun _ _ _ h => h) (Or.inl ⟨by rfl, ?_⟩) (by assumption) ?_
        rotate_left
        · intro W hSw
          clear hSw
          go_simp
          try with_reducible rfl
        simp only [Act.put, List.setIfInBounds_toArray, List.set_cons_zero, List.set_cons_succ]
        refine wpAnyH_take (i := 7) (oi := { dst := some 56, op := Op.move (Operand.tmp 55), type := 4, pos := "outright.go:33", after := #[{ on := 6, ground := Ground.data }, { on := 1, ground := Ground.chain }], guard := none }) (v := ?_) rfl (by kernel_rfl) (by kernel_rfl) (by kernel_rfl) (fun _ _ _ h => h) (Or.inl ⟨by rfl, ?_⟩) (by assumption) ?_
        rotate_left
        · intro W hSw
          clear hSw
          go_simp
          try with_reducible rfl
        simp only [Act.put, List.setIfInBounds_toArray, List.set_cons_zero, List.set_cons_succ]
        refine wpAnyH_take (i := 8) (oi := { dst := some 57, op := Op.load 24 (Operand.tmp 1), type := 24, pos := "outright.go:33", after := #[{ on := 7, ground := Ground.guard }], guard := some (7, false) }) (v := ?_) rfl (by kernel_rfl) (by kernel_rfl) (by kernel_rfl) (fun _ _ _ h => h) (Or.inl ⟨by rfl, ?_⟩) (by assumption) ?_
        rotate_left
        · intro W hSw
          have x0 := (HBX.out.later hSw).cell 0
          have x1 := (HBX.out.later hSw).cell 1
          have x2 := (HBX.out.later hSw).cell 2
          have x3 := (HBX.out.later hSw).cell 3
          have x4 := (HBX.out.later hSw).cell 4
          have x5 := (HBX.out.later hSw).cell 5
          have x6 := (HBX.out.later hSw).cell 6
          simp only [List.getElem?_toArray, List.getElem?_cons_zero, List.getElem?_cons_succ] at x0 x1 x2 x3 x4 x5 x6
          go_simp
          try with_reducible rfl
        simp only [Act.put, List.setIfInBounds_toArray, List.set_cons_zero, List.set_cons_succ]
        refine wpAnyH_take (i := 11) (oi := { dst := some 60, op := Op.move (Operand.tmp 6), type := 4, pos := "outright.go:33", after := #[{ on := 7, ground := Ground.guard }], guard := some (7, false) }) (v := ?_) rfl (by kernel_rfl) (by kernel_rfl) (by kernel_rfl) (fun _ _ _ h => h) (Or.inl ⟨by rfl, ?_⟩) (by assumption) ?_
        rotate_left
        · intro W hSw
          clear hSw
          go_simp
          try with_reducible rfl
        simp only [Act.put, List.setIfInBounds_toArray, List.set_cons_zero, List.set_cons_succ]
        refine wpAnyH_ready (rs := [9]) (by kernel_rfl) (by simp) (AllReadyH.cons (o := { dst := some 58, op := Op.call { callee := Callee.value (Operand.func 13), args := #[Operand.tmp 57], argTypes := #[24] }, type := 26, pos := "outright.go:33", after := #[{ on := 8, ground := Ground.data }, { on := 7, ground := Ground.chain }, { on := 7, ground := Ground.guard }], guard := some (7, false) }) rfl (fun K hK => ?_) AllReadyH.nil)
        have HCL := Lib.hid (HMAY.out _ (HN3.out.gl.later HH.out))
        go_simp
        refine HCL.out.mono ?_
        rintro e Wb ⟨rfl, hb⟩
        replace HH := Lib.hid (stepB HH.out hb)
        clear hb HCL hHeld
        refine hK.out _ _ HH.out (fun hHeld => ?_)
        clear hK K
        refine wpAnyH_take (i := 10) (oi := { dst := some 59, op := Op.binOp BinOp.eql 26 (Operand.tmp 58) (Operand.const (Value.int IntKind.i64 0)) 26, type := 4, pos := "outright.go:33", after := #[{ on := 9, ground := Ground.data }, { on := 7, ground := Ground.guard }], guard := some (7, false) }) (v := ?_) rfl (by kernel_rfl) (by kernel_rfl) (by kernel_rfl) (fun _ _ _ h => h) (Or.inl ⟨by rfl, ?_⟩) (by assumption) ?_
        rotate_left
        · intro W hSw
          clear hSw
          go_simp
          try with_reducible rfl
        simp only [Act.put, List.setIfInBounds_toArray, List.set_cons_zero, List.set_cons_succ]
        refine wpAnyH_take (i := 12) (oi := { dst := some 61, op := Op.binOp BinOp.neq 4 (Operand.tmp 59) (Operand.tmp 60) 4, type := 4, pos := "outright.go:33", after := #[{ on := 10, ground := Ground.data }, { on := 11, ground := Ground.data }, { on := 7, ground := Ground.guard }], guard := some (7, false) }) (v := ?_) rfl (by kernel_rfl) (by kernel_rfl) (by kernel_rfl) (fun _ _ _ h => h) (Or.inl ⟨by rfl, ?_⟩) (by assumption) ?_
        rotate_left
        · intro W hSw
          clear hSw
          go_simp
          try with_reducible rfl
        simp only [Act.put, List.setIfInBounds_toArray, List.set_cons_zero, List.set_cons_succ]
        refine wpAnyH_take (i := 13) (oi := { dst := some 62, op := Op.pick (Operand.tmp 56) (Operand.const (Value.bool true)) (Operand.tmp 61), type := 4, pos := "outright.go:33", after := #[{ on := 7, ground := Ground.data }, { on := 12, ground := Ground.data }], guard := none }) (v := ?_) rfl (by kernel_rfl) (by kernel_rfl) (by kernel_rfl) (fun _ _ _ h => h) (Or.inl ⟨by rfl, ?_⟩) (by assumption) ?_
        rotate_left
        · intro W hSw
          clear hSw
          go_simp
          try with_reducible rfl
        simp only [Act.put, List.setIfInBounds_toArray, List.set_cons_zero, List.set_cons_succ]
        refine wpAnyH_take (i := 14) (oi := { dst := some 63, op := Op.move (Operand.tmp 62), type := 4, pos := "outright.go:33", after := #[{ on := 13, ground := Ground.data }, { on := 9, ground := Ground.chain }], guard := none }) (v := ?_) rfl (by kernel_rfl) (by kernel_rfl) (by kernel_rfl) (fun _ _ _ h => h) (Or.inl ⟨by rfl, ?_⟩) (by assumption) ?_
        rotate_left
        · intro W hSw
          clear hSw
          go_simp
          try with_reducible rfl
        simp only [Act.put, List.setIfInBounds_toArray, List.set_cons_zero, List.set_cons_succ]
        refine wpAnyH_take (i := 15) (oi := { dst := some 64, op := Op.move (Operand.tmp 5), type := 26, pos := "outright.go:33", after := #[{ on := 14, ground := Ground.guard }], guard := some (14, false) }) (v := ?_) rfl (by kernel_rfl) (by kernel_rfl) (by kernel_rfl) (fun _ _ _ h => h) (Or.inl ⟨by rfl, ?_⟩) (by assumption) ?_
        rotate_left
        · intro W hSw
          clear hSw
          go_simp
          try with_reducible rfl
        simp only [Act.put, List.setIfInBounds_toArray, List.set_cons_zero, List.set_cons_succ]
        refine wpAnyH_take (i := 16) (oi := { dst := some 65, op := Op.binOp BinOp.eql 26 (Operand.tmp 64) (Operand.const (Value.int IntKind.i64 0)) 26, type := 4, pos := "outright.go:33", after := #[{ on := 15, ground := Ground.data }, { on := 14, ground := Ground.guard }], guard := some (14, false) }) (v := ?_) rfl (by kernel_rfl) (by kernel_rfl) (by kernel_rfl) (fun _ _ _ h => h) (Or.inl ⟨by rfl, ?_⟩) (by assumption) ?_
        rotate_left
        · intro W hSw
          clear hSw
          go_simp
          try with_reducible rfl
        simp only [Act.put, List.setIfInBounds_toArray, List.set_cons_zero, List.set_cons_succ]
        refine wpAnyH_take (i := 17) (oi := { dst := some 66, op := Op.move (Operand.tmp 6), type := 4, pos := "outright.go:33", after := #[{ on := 14, ground := Ground.guard }], guard := some (14, false) }) (v := ?_) rfl (by kernel_rfl) (by kernel_rfl) (by kernel_rfl) (fun _ _ _ h => h) (Or.inl ⟨by rfl, ?_⟩) (by assumption) ?_
        rotate_left
        · intro W hSw
          clear hSw
          go_simp
          try with_reducible rfl
        simp only [Act.put, List.setIfInBounds_toArray, List.set_cons_zero, List.set_cons_succ]
        refine wpAnyH_take (i := 18) (oi := { dst := some 67, op := Op.binOp BinOp.neq 4 (Operand.tmp 65) (Operand.tmp 66) 4, type := 4, pos := "outright.go:33", after := #[{ on := 16, ground := Ground.data }, { on := 17, ground := Ground.data }, { on := 14, ground := Ground.guard }], guard := some (14, false) }) (v := ?_) rfl (by kernel_rfl) (by kernel_rfl) (by kernel_rfl) (fun _ _ _ h => h) (Or.inl ⟨by rfl, ?_⟩) (by assumption) ?_
        rotate_left
        · intro W hSw
          clear hSw
          go_simp
          try with_reducible rfl
        simp only [Act.put, List.setIfInBounds_toArray, List.set_cons_zero, List.set_cons_succ]
        refine wpAnyH_take (i := 19) (oi := { dst := some 68, op := Op.pick (Operand.tmp 63) (Operand.const (Value.bool true)) (Operand.tmp 67), type := 4, pos := "outright.go:33", after := #[{ on := 14, ground := Ground.data }, { on := 18, ground := Ground.data }], guard := none }) (v := ?_) rfl (by kernel_rfl) (by kernel_rfl) (by kernel_rfl) (fun _ _ _ h => h) (Or.inl ⟨by rfl, ?_⟩) (by assumption) ?_
        rotate_left
        · intro W hSw
          clear hSw
          go_simp
          try with_reducible rfl
        simp only [Act.put, List.setIfInBounds_toArray, List.set_cons_zero, List.set_cons_succ]
        refine wpAnyH_take (i := 20) (oi := { dst := some 69, op := Op.move (Operand.tmp 68), type := 4, pos := "outright.go:33", after := #[{ on := 19, ground := Ground.data }, { on := 14, ground := Ground.chain }], guard := none }) (v := ?_) rfl (by kernel_rfl) (by kernel_rfl) (by kernel_rfl) (fun _ _ _ h => h) (Or.inl ⟨by rfl, ?_⟩) (by assumption) ?_
        rotate_left
        · intro W hSw
          clear hSw
          go_simp
          try with_reducible rfl
        simp only [Act.put, List.setIfInBounds_toArray, List.set_cons_zero, List.set_cons_succ]
        refine wpAnyH_take (i := 21) (oi := { dst := some 70, op := Op.move (Operand.tmp 6), type := 4, pos := "outright.go:33", after := #[{ on := 20, ground := Ground.guard }], guard := some (20, false) }) (v := ?_) rfl (by kernel_rfl) (by kernel_rfl) (by kernel_rfl) (fun _ _ _ h => h) (Or.inl ⟨by rfl, ?_⟩) (by assumption) ?_
        rotate_left
        · intro W hSw
          clear hSw
          go_simp
          try with_reducible rfl
        simp only [Act.put, List.setIfInBounds_toArray, List.set_cons_zero, List.set_cons_succ]
        refine wpAnyH_take (i := 22) (oi := { dst := some 71, op := Op.move (Operand.tmp 70), type := 4, pos := "outright.go:33", after := #[{ on := 21, ground := Ground.data }, { on := 20, ground := Ground.chain }, { on := 20, ground := Ground.guard }], guard := some (20, false) }) (v := ?_) rfl (by kernel_rfl) (by kernel_rfl) (by kernel_rfl) (fun _ _ _ h => h) (Or.inl ⟨by rfl, ?_⟩) (by assumption) ?_
        rotate_left
        · intro W hSw
          clear hSw
          go_simp
          try with_reducible rfl
        simp only [Act.put, List.setIfInBounds_toArray, List.set_cons_zero, List.set_cons_succ]
        refine wpAnyH_take (i := 23) (oi := { dst := some 72, op := Op.load 24 (Operand.tmp 4), type := 24, pos := "outright.go:33", after := #[{ on := 22, ground := Ground.guard }], guard := some (22, true) }) (v := undef) rfl (by kernel_rfl) (by kernel_rfl) (by kernel_rfl) (fun _ _ _ h => h) (Or.inr ⟨by rfl, rfl⟩) (by assumption) ?_
        simp only [Act.put, List.setIfInBounds_toArray, List.set_cons_zero, List.set_cons_succ]
        refine wpAnyH_take (i := 24) (oi := { dst := some 73, op := Op.load 24 (Operand.tmp 1), type := 24, pos := "outright.go:33", after := #[{ on := 22, ground := Ground.guard }], guard := some (22, true) }) (v := undef) rfl (by kernel_rfl) (by kernel_rfl) (by kernel_rfl) (fun _ _ _ h => h) (Or.inr ⟨by rfl, rfl⟩) (by assumption) ?_
        simp only [Act.put, List.setIfInBounds_toArray, List.set_cons_zero, List.set_cons_succ]
        refine wpAnyH_take (i := 25) (oi := { dst := some 74, op := Op.call { callee := Callee.value (Operand.func 14), args := #[Operand.tmp 73], argTypes := #[24] }, type := 24, pos := "outright.go:33", after := #[{ on := 24, ground := Ground.data }, { on := 22, ground := Ground.chain }, { on := 22, ground := Ground.guard }], guard := some (22, true) }) (v := undef) rfl (by kernel_rfl) (by kernel_rfl) (by kernel_rfl) (fun _ _ _ h => h) (Or.inr ⟨by rfl, rfl⟩) (by assumption) ?_
        simp only [Act.put, List.setIfInBounds_toArray, List.set_cons_zero, List.set_cons_succ]
        refine wpAnyH_take (i := 26) (oi := { dst := some 75, op := Op.binOp BinOp.neq 24 (Operand.tmp 72) (Operand.tmp 74) 24, type := 4, pos := "outright.go:33", after := #[{ on := 23, ground := Ground.data }, { on := 25, ground := Ground.data }, { on := 22, ground := Ground.guard }], guard := some (22, true) }) (v := undef) rfl (by kernel_rfl) (by kernel_rfl) (by kernel_rfl) (fun _ _ _ h => h) (Or.inr ⟨by rfl, rfl⟩) (by assumption) ?_
        simp only [Act.put, List.setIfInBounds_toArray, List.set_cons_zero, List.set_cons_succ]
        refine wpAnyH_take (i := 27) (oi := { dst := some 76, op := Op.pick (Operand.tmp 71) (Operand.tmp 75) (Operand.const (Value.bool false)), type := 4, pos := "outright.go:33", after := #[{ on := 22, ground := Ground.data }, { on := 26, ground := Ground.data }, { on := 20, ground := Ground.guard }], guard := some (20, false) }) (v := ?_) rfl (by kernel_rfl) (by kernel_rfl) (by kernel_rfl) (fun _ _ _ h => h) (Or.inl ⟨by rfl, ?_⟩) (by assumption) ?_
        rotate_left
        · intro W hSw
          clear hSw
          go_simp
          try with_reducible rfl
        simp only [Act.put, List.setIfInBounds_toArray, List.set_cons_zero, List.set_cons_succ]
        refine wpAnyH_take (i := 28) (oi := { dst := some 77, op := Op.pick (Operand.tmp 69) (Operand.const (Value.bool true)) (Operand.tmp 76), type := 4, pos := "outright.go:33", after := #[{ on := 20, ground := Ground.data }, { on := 27, ground := Ground.data }], guard := none }) (v := ?_) rfl (by kernel_rfl) (by kernel_rfl) (by kernel_rfl) (fun _ _ _ h => h) (Or.inl ⟨by rfl, ?_⟩) (by assumption) ?_
        rotate_left
        · intro W hSw
          clear hSw
          go_simp
          try with_reducible rfl
        simp only [Act.put, List.setIfInBounds_toArray, List.set_cons_zero, List.set_cons_succ]
        refine wpAnyH_take (i := 29) (oi := { dst := some 78, op := Op.move (Operand.tmp 77), type := 4, pos := "outright.go:33", after := #[{ on := 28, ground := Ground.data }, { on := 25, ground := Ground.chain }], guard := none }) (v := ?_) rfl (by kernel_rfl) (by kernel_rfl) (by kernel_rfl) (fun _ _ _ h => h) (Or.inl ⟨by rfl, ?_⟩) (by assumption) ?_
        rotate_left
        · intro W hSw
          clear hSw
          go_simp
          try with_reducible rfl
        simp only [Act.put, List.setIfInBounds_toArray, List.set_cons_zero, List.set_cons_succ]
        refine wpAnyH_take (i := 30) (oi := { dst := some 79, op := Op.move (Operand.tmp 3), type := 5, pos := "outright.go:33", after := #[{ on := 29, ground := Ground.guard }], guard := some (29, false) }) (v := ?_) rfl (by kernel_rfl) (by kernel_rfl) (by kernel_rfl) (fun _ _ _ h => h) (Or.inl ⟨by rfl, ?_⟩) (by assumption) ?_
        rotate_left
        · intro W hSw
          clear hSw
          go_simp
          try with_reducible rfl
        simp only [Act.put, List.setIfInBounds_toArray, List.set_cons_zero, List.set_cons_succ]
        refine wpAnyH_take (i := 32) (oi := { dst := some 81, op := Op.move (Operand.tmp 3), type := 5, pos := "outright.go:33", after := #[{ on := 29, ground := Ground.guard }], guard := some (29, false) }) (v := ?_) rfl (by kernel_rfl) (by kernel_rfl) (by kernel_rfl) (fun _ _ _ h => h) (Or.inl ⟨by rfl, ?_⟩) (by assumption) ?_
        rotate_left
        · intro W hSw
          clear hSw
          go_simp
          try with_reducible rfl
        simp only [Act.put, List.setIfInBounds_toArray, List.set_cons_zero, List.set_cons_succ]
        refine wpAnyH_take (i := 33) (oi := { dst := some 82, op := Op.binOp BinOp.gtr 5 (Operand.tmp 81) (Operand.const (Value.int IntKind.u8 1)) 5, type := 4, pos := "outright.go:33", after := #[{ on := 32, ground := Ground.data }, { on := 29, ground := Ground.guard }], guard := some (29, false) }) (v := ?_) rfl (by kernel_rfl) (by kernel_rfl) (by kernel_rfl) (fun _ _ _ h => h) (Or.inl ⟨by rfl, ?_⟩) (by assumption) ?_
        rotate_left
        · intro W hSw
          clear hSw
          have q1 := g1
          go_simp
          try with_reducible rfl
        simp only [Act.put, List.setIfInBounds_toArray, List.set_cons_zero, List.set_cons_succ]
        refine wpAnyH_ready (rs := [31]) (by kernel_rfl) (by simp) (AllReadyH.cons (o := { dst := some 80, op := Op.call { callee := Callee.value (Operand.func 15), args := #[Operand.tmp 79], argTypes := #[5] }, type := 4, pos := "outright.go:33", after := #[{ on := 30, ground := Ground.data }, { on := 29, ground := Ground.chain }, { on := 29, ground := Ground.guard }], guard := some (29, false) }) rfl (fun K hK => ?_) AllReadyH.nil)
        have HCL := Lib.hid (HNEE.out _ (HN3.out.gl.later HH.out))
        go_simp
        refine HCL.out.mono ?_
        rintro e Wd ⟨rfl, hb⟩
        replace HH := Lib.hid (stepB HH.out hb)
        clear hb HCL hHeld
        refine hK.out _ _ HH.out (fun hHeld => ?_)
        clear hK K
        refine wpAnyH_take (i := 34) (oi := { dst := some 83, op := Op.move (Operand.tmp 82), type := 4, pos := "outright.go:33", after := #[{ on := 33, ground := Ground.data }, { on := 31, ground := Ground.chain }, { on := 29, ground := Ground.guard }], guard := some (29, false) }) (v := ?_) rfl (by kernel_rfl) (by kernel_rfl) (by kernel_rfl) (fun _ _ _ h => h) (Or.inl ⟨by rfl, ?_⟩) (by assumption) ?_
        rotate_left
        · intro W hSw
          clear hSw
          go_simp
          try with_reducible rfl
        simp only [Act.put, List.setIfInBounds_toArray, List.set_cons_zero, List.set_cons_succ]
        refine wpAnyH_take (i := 35) (oi := { dst := some 84, op := Op.move (Operand.tmp 3), type := 5, pos := "outright.go:33", after := #[{ on := 34, ground := Ground.guard }], guard := some (34, true) }) (v := undef) rfl (by kernel_rfl) (by kernel_rfl) (by kernel_rfl) (fun _ _ _ h => h) (Or.inr ⟨by rfl, rfl⟩) (by assumption) ?_
        simp only [Act.put, List.setIfInBounds_toArray, List.set_cons_zero, List.set_cons_succ]
        refine wpAnyH_take (i := 36) (oi := { dst := some 85, op := Op.binOp BinOp.lss 5 (Operand.tmp 84) (Operand.const (Value.int IntKind.u8 8)) 5, type := 4, pos := "outright.go:33", after := #[{ on := 35, ground := Ground.data }, { on := 34, ground := Ground.guard }], guard := some (34, true) }) (v := undef) rfl (by kernel_rfl) (by kernel_rfl) (by kernel_rfl) (fun _ _ _ h => h) (Or.inr ⟨by rfl, rfl⟩) (by assumption) ?_
        simp only [Act.put, List.setIfInBounds_toArray, List.set_cons_zero, List.set_cons_succ]
        refine wpAnyH_take (i := 37) (oi := { dst := some 86, op := Op.pick (Operand.tmp 83) (Operand.tmp 85) (Operand.const (Value.bool false)), type := 4, pos := "outright.go:33", after := #[{ on := 34, ground := Ground.data }, { on := 36, ground := Ground.data }, { on := 29, ground := Ground.guard }], guard := some (29, false) }) (v := ?_) rfl (by kernel_rfl) (by kernel_rfl) (by kernel_rfl) (fun _ _ _ h => h) (Or.inl ⟨by rfl, ?_⟩) (by assumption) ?_
        rotate_left
        · intro W hSw
          clear hSw
          go_simp
          try with_reducible rfl
        simp only [Act.put, List.setIfInBounds_toArray, List.set_cons_zero, List.set_cons_succ]
        refine wpAnyH_take (i := 38) (oi := { dst := some 87, op := Op.binOp BinOp.neq 4 (Operand.tmp 80) (Operand.tmp 86) 4, type := 4, pos := "outright.go:33", after := #[{ on := 31, ground := Ground.data }, { on := 37, ground := Ground.data }, { on := 29, ground := Ground.guard }], guard := some (29, false) }) (v := ?_) rfl (by kernel_rfl) (by kernel_rfl) (by kernel_rfl) (fun _ _ _ h => h) (Or.inl ⟨by rfl, ?_⟩) (by assumption) ?_
        rotate_left
        · intro W hSw
          clear hSw
          go_simp
          try with_reducible rfl
        simp only [Act.put, List.setIfInBounds_toArray, List.set_cons_zero, List.set_cons_succ]
        refine wpAnyH_take (i := 39) (oi := { dst := some 88, op := Op.pick (Operand.tmp 78) (Operand.const (Value.bool true)) (Operand.tmp 87), type := 4, pos := "outright.go:33", after := #[{ on := 29, ground := Ground.data }, { on := 38, ground := Ground.data }], guard := none }) (v := ?_) rfl (by kernel_rfl) (by kernel_rfl) (by kernel_rfl) (fun _ _ _ h => h) (Or.inl ⟨by rfl, ?_⟩) (by assumption) ?_
        rotate_left
        · intro W hSw
          clear hSw
          go_simp
          try with_reducible rfl
        simp only [Act.put, List.setIfInBounds_toArray, List.set_cons_zero, List.set_cons_succ]
        refine wpAnyH_take (i := 40) (oi := { dst := some 89, op := Op.move (Operand.tmp 88), type := 4, pos := "outright.go:33", after := #[{ on := 39, ground := Ground.data }, { on := 34, ground := Ground.chain }], guard := none }) (v := ?_) rfl (by kernel_rfl) (by kernel_rfl) (by kernel_rfl) (fun _ _ _ h => h) (Or.inl ⟨by rfl, ?_⟩) (by assumption) ?_
        rotate_left
        · intro W hSw
          clear hSw
          go_simp
          try with_reducible rfl
        simp only [Act.put, List.setIfInBounds_toArray, List.set_cons_zero, List.set_cons_succ]
        refine wpAnyH_take (i := 41) (oi := { dst := some 90, op := Op.load 24 (Operand.tmp 1), type := 24, pos := "outright.go:33", after := #[{ on := 40, ground := Ground.guard }], guard := some (40, false) }) (v := ?_) rfl (by kernel_rfl) (by kernel_rfl) (by kernel_rfl) (fun _ _ _ h => h) (Or.inl ⟨by rfl, ?_⟩) (by assumption) ?_
        rotate_left
        · intro W hSw
          have x0 := (HBX.out.later hSw).cell 0
          have x1 := (HBX.out.later hSw).cell 1
          have x2 := (HBX.out.later hSw).cell 2
          have x3 := (HBX.out.later hSw).cell 3
          have x4 := (HBX.out.later hSw).cell 4
          have x5 := (HBX.out.later hSw).cell 5
          have x6 := (HBX.out.later hSw).cell 6
          simp only [List.getElem?_toArray, List.getElem?_cons_zero, List.getElem?_cons_succ] at x0 x1 x2 x3 x4 x5 x6
          go_simp
          try with_reducible rfl
        simp only [Act.put, List.setIfInBounds_toArray, List.set_cons_zero, List.set_cons_succ]
        refine wpAnyH_take (i := 42) (oi := { dst := some 91, op := Op.load 24 (Operand.tmp 1), type := 24, pos := "outright.go:33", after := #[{ on := 40, ground := Ground.guard }], guard := some (40, false) }) (v := ?_) rfl (by kernel_rfl) (by kernel_rfl) (by kernel_rfl) (fun _ _ _ h => h) (Or.inl ⟨by rfl, ?_⟩) (by assumption) ?_
        rotate_left
        · intro W hSw
          have x0 := (HBX.out.later hSw).cell 0
          have x1 := (HBX.out.later hSw).cell 1
          have x2 := (HBX.out.later hSw).cell 2
          have x3 := (HBX.out.later hSw).cell 3
          have x4 := (HBX.out.later hSw).cell 4
          have x5 := (HBX.out.later hSw).cell 5
          have x6 := (HBX.out.later hSw).cell 6
          simp only [List.getElem?_toArray, List.getElem?_cons_zero, List.getElem?_cons_succ] at x0 x1 x2 x3 x4 x5 x6
          go_simp
          try with_reducible rfl
        simp only [Act.put, List.setIfInBounds_toArray, List.set_cons_zero, List.set_cons_succ]
        refine wpAnyH_ready (rs := [43]) (by kernel_rfl) (by simp) (AllReadyH.cons (o := { dst := some 92, op := Op.call { callee := Callee.value (Operand.func 14), args := #[Operand.tmp 91], argTypes := #[24] }, type := 24, pos := "outright.go:33", after := #[{ on := 42, ground := Ground.data }, { on := 40, ground := Ground.chain }, { on := 40, ground := Ground.guard }], guard := some (40, false) }) rfl (fun K hK => ?_) AllReadyH.nil)
        have HCL := Lib.hid (HCLN.out _ (HN3.out.gl.later HH.out))
        go_simp
        refine HCL.out.mono ?_
        rintro e We ⟨rfl, hb⟩
        replace HH := Lib.hid (stepB HH.out hb)
        clear hb HCL hHeld
        refine hK.out _ _ HH.out (fun hHeld => ?_)
        clear hK K
        refine wpAnyH_ready (rs := [44]) (by kernel_rfl) (by simp) (AllReadyH.cons (o := { dst := some 93, op := Op.call { callee := Callee.value (Operand.func 16), args := #[Operand.tmp 90, Operand.tmp 92], argTypes := #[24, 24] }, type := 4, pos := "outright.go:33", after := #[{ on := 41, ground := Ground.data }, { on := 43, ground := Ground.data }, { on := 43, ground := Ground.chain }, { on := 40, ground := Ground.guard }], guard := some (40, false) }) rfl (fun K hK => ?_) AllReadyH.nil)
        have HCL := Lib.hid (HSAM.out _ (HN3.out.gl.later HH.out))
        go_simp
        refine HCL.out.mono ?_
        rintro e Wf ⟨rfl, hb⟩
        replace HH := Lib.hid (stepB HH.out hb)
        clear hb HCL hHeld
        refine hK.out _ _ HH.out (fun hHeld => ?_)
        clear hK K
        refine wpAnyH_take (i := 45) (oi := { dst := some 94, op := Op.unOp UnOp.not 4 (Operand.tmp 93), type := 4, pos := "outright.go:33", after := #[{ on := 44, ground := Ground.data }, { on := 40, ground := Ground.guard }], guard := some (40, false) }) (v := ?_) rfl (by kernel_rfl) (by kernel_rfl) (by kernel_rfl) (fun _ _ _ h => h) (Or.inl ⟨by rfl, ?_⟩) (by assumption) ?_
        rotate_left
        · intro W hSw
          clear hSw
          go_simp
          try with_reducible rfl
        simp only [Act.put, List.setIfInBounds_toArray, List.set_cons_zero, List.set_cons_succ]
        refine wpAnyH_take (i := 46) (oi := { dst := some 95, op := Op.pick (Operand.tmp 89) (Operand.const (Value.bool true)) (Operand.tmp 94), type := 4, pos := "outright.go:33", after := #[{ on := 40, ground := Ground.data }, { on := 45, ground := Ground.data }], guard := none }) (v := ?_) rfl (by kernel_rfl) (by kernel_rfl) (by kernel_rfl) (fun _ _ _ h => h) (Or.inl ⟨by rfl, ?_⟩) (by assumption) ?_
        rotate_left
        · intro W hSw
          clear hSw
          go_simp
          try with_reducible rfl
        simp only [Act.put, List.setIfInBounds_toArray, List.set_cons_zero, List.set_cons_succ]
        refine wpAnyH_done (by kernel_rfl) (NoPanic.normal ?_) _
        have HF := Lib.hid (HN3.out.later HH.out)
        clear hHeld HH HSHW HMAY HCLN HSAM HNEE HNQ HBX
        go_wp2
        go_roundw
        case rel => exact ⟨k + 1, (k : Int), by omega, by go_num, HF.out⟩
        case measure => simp [intOf]; omega
      · have HKC : Hid (1 ≤ k ∧ k ≤ 1) := Lib.hid (by omega)
        clear hk1
        have m1 : mayK k = true := by have hkc := HKC.out; unfold mayK; simp; omega
        have HPA := parse_any s w6 (by have := HAL.out.2.2.2.2.2.2.2; omega) HN2.out.gl
        rw [parV_eq] at HPA
        rw [show parC s = (kn3, tx3, ke3, en3, va3, li3, eg3) by unfold parC; rw [HAL.out.2.1, m1]; exact HAL.out.2.2.2.1 m1, show parE s = 0 by unfold parE; rw [HAL.out.2.1, m1]; rfl] at HPA
        unfold clV at HPA
        simp only at HPA
        have HPB := Lib.hid HPA
        clear HPA
        go_wp2_with fail
        refine HPB.out.mono ?_
        rintro e w7 ⟨rfl, hb⟩
        have hby : Below w7.heap.size w7 (w7.alloc (.cells #[.int .u8 (kn3 : Int), .int .i64 tx3, .string ke3, .string en3, .string va3, .int .i64 li3, .int .u8 (eg3 : Int)] 24)) := (Below.refl _ _).alloc (Nat.le_refl _) _
        have HY : Hid (Blk (w7.alloc (.cells #[.int .u8 (kn3 : Int), .int .i64 tx3, .string ke3, .string en3, .string va3, .int .i64 li3, .int .u8 (eg3 : Int)] 24)) w7.heap.size #[.int .u8 (kn3 : Int), .int .i64 tx3, .string ke3, .string en3, .string va3, .int .i64 li3, .int .u8 (eg3 : Int)] 24) := Blk.new _ _ _
        have HN3 := Lib.hid ((HN2.out.later hb).later hby)
        clear hb hby HPB t0 HN2
        go_upto_region 10 with (fail)
        generalize w7.alloc (.cells #[.int .u8 (kn3 : Int), .int .i64 tx3, .string ke3, .string en3, .string va3, .int .i64 li3, .int .u8 (eg3 : Int)] 24) = w8 at *
        obtain ⟨py, hpy⟩ : ∃ x, w7.heap.size = x := ⟨_, rfl⟩
        rw [hpy] at HY ⊢
        clear hpy
        have p0 : decide ((0 : Int) < (k : Int)) = true := by have hkc := HKC.out; simp; omega
        have p0' : decide (0 < k) = true := by have hkc := HKC.out; simp; omega
        have p1 : decide ((k : Int) < 10) = true := by have hkc := HKC.out; simp; omega
        have g1 : decide ((1 : Int) < (k : Int)) = false := by have hkc := HKC.out; simp; omega

        go_upto_region 11 with (fail)
        have HSHW : Hid (∀ V, Gl V → Calls Tryd.prog 12 #[.agg #[.int .u8 (k : Int), .int .i64 (-3), .string { data := #[107] }, .string { data := #[255, 0] }, .string { data := #[118] }, .int .i64 7, .int .u8 2]] V fun e w' => e = .returned (.string s) ∧ Below V.heap.size V w') := Lib.hid (fun V hV => by
          have hm9 : (10 : Nat) ≤ 100000 := by decide
          have h := show_any (allC k) V ⟨by show k ≤ 255; omega, by show (2 : Nat) ≤ 255; decide, by show (-9223372036854775808 : Int) ≤ -3 ∧ (-3 : Int) ≤ 9223372036854775807; omega, by show (-9223372036854775808 : Int) ≤ 7 ∧ (7 : Int) ≤ 9223372036854775807; omega, by show (1 : Nat) ≤ 100000; decide, by show (2 : Nat) ≤ 100000; decide, by show (1 : Nat) ≤ 100000; decide⟩ hV (by have := HAL.out.2.2.2.2.2.2.1; omega)
          rw [HAL.out.1] at h
          exact h)
        have HMAY : Hid (∀ V, Gl V → Calls Tryd.prog 13 #[.agg #[.int .u8 (k : Int), .int .i64 (-3), .string { data := #[107] }, .string { data := #[255, 0] }, .string { data := #[118] }, .int .i64 7, .int .u8 2]] V fun e w' => e = .returned (.int .i64 0) ∧ Below V.heap.size V w') := Lib.hid (fun V hV => by
          have h := may_any (allC k) V (by show k ≤ 255; omega) (by show (2 : Nat) ≤ 255; decide) hV
          rw [HAL.out.2.2.1, m1] at h
          exact h)
        have HCLN : Hid (∀ V, Gl V → Calls Tryd.prog 14 #[.agg #[.int .u8 (k : Int), .int .i64 (-3), .string { data := #[107] }, .string { data := #[255, 0] }, .string { data := #[118] }, .int .i64 7, .int .u8 2]] V fun e w' => e = .returned (.agg #[.int .u8 (kn3 : Int), .int .i64 tx3, .string ke3, .string en3, .string va3, .int .i64 li3, .int .u8 (eg3 : Int)]) ∧ Below V.heap.size V w') := Lib.hid (fun V hV => by
          have h := clean_any k (-3) { data := #[107] } { data := #[255, 0] } { data := #[118] } 7 2 V (by omega) hV
          rw [show clnC (k, -3, { data := #[107] }, { data := #[255, 0] }, { data := #[118] }, 7, 2) = (kn3, tx3, ke3, en3, va3, li3, eg3) from HC3.out] at h
          exact h)
        have HSAM : Hid (∀ V, Gl V → Calls Tryd.prog 16 #[.agg #[.int .u8 (k : Int), .int .i64 (-3), .string { data := #[107] }, .string { data := #[255, 0] }, .string { data := #[118] }, .int .i64 7, .int .u8 2], .agg #[.int .u8 (kn3 : Int), .int .i64 tx3, .string ke3, .string en3, .string va3, .int .i64 li3, .int .u8 (eg3 : Int)]] V fun e w' => e = .returned (.bool true) ∧ Below V.heap.size V w') := Lib.hid (fun V hV => by
          have hk3 : kn3 ≤ 255 := by
            have h1 := congrArg (fun z : Cl => z.1) HC3.out
            have h2 : k = kn3 := h1
            omega
          have h := same_any k (-3) { data := #[107] } { data := #[255, 0] } { data := #[118] } 7 2 kn3 tx3 ke3 en3 va3 li3 eg3 V (by omega) hk3 hV
          rw [show sameC (k, -3, { data := #[107] }, { data := #[255, 0] }, { data := #[118] }, 7, 2) (kn3, tx3, ke3, en3, va3, li3, eg3) = true from HAL.out.2.2.2.2.2.1] at h
          exact h)
        have HNEE : Hid (∀ V, Gl V → Calls Tryd.prog 15 #[.int .u8 (k : Int)] V fun e w' => e = .returned (.bool false) ∧ Below V.heap.size V w') := Lib.hid (fun V hV => by
          have h := needs_any k V (by omega) hV
          rw [HAL.out.2.2.2.2.1, show (decide (2 ≤ k) && decide (k ≤ 7)) = false by have hkc := HKC.out; simp; omega] at h
          exact h)
        have HNQ : Hid (∀ V : World, (binOp .neq 24 (.agg #[.int .u8 (kn3 : Int), .int .i64 tx3, .string ke3, .string en3, .string va3, .int .i64 li3, .int .u8 (eg3 : Int)]) (.agg #[.int .u8 (kn3 : Int), .int .i64 tx3, .string ke3, .string en3, .string va3, .int .i64 li3, .int .u8 (eg3 : Int)])).run Tryd.prog V = .ok (.bool false) V) := Lib.hid (fun V => by
          have h := neq24 (kn3, tx3, ke3, en3, va3, li3, eg3) (kn3, tx3, ke3, en3, va3, li3, eg3) V
          rw [decide_eq_true rfl] at h
          exact h)
        have HRK2 := HRK
        clear m1 d2
        refine wp_region_noPanic ?_
        obtain ⟨W0, rfl⟩ : ∃ W0 : World, W0 = w8 := ⟨_, rfl⟩
        refine wp_region_held_drew (S := fun W => Below W0.heap.size W0 W) (by kernel_rfl) (Below.drew (Below.refl _ _)) (fun hHeld => ?_)
        have HH := Lib.hid hHeld
        have HBX := Lib.hid HN3.out.bx
        refine wpAnyH_take (i := 0) (oi := { dst := some 49, op := Op.load 24 (Operand.tmp 1), type := 24, pos := "outright.go:33", after := #[], guard := none }) (v := ?_) rfl (by kernel_rfl) (by kernel_rfl) (by kernel_rfl) (fun _ _ _ h => h) (Or.inl ⟨by rfl, ?_⟩) (by assumption) ?_
        rotate_left
        · intro W hSw
          have x0 := (HBX.out.later hSw).cell 0
          have x1 := (HBX.out.later hSw).cell 1
          have x2 := (HBX.out.later hSw).cell 2
          have x3 := (HBX.out.later hSw).cell 3
          have x4 := (HBX.out.later hSw).cell 4
          have x5 := (HBX.out.later hSw).cell 5
          have x6 := (HBX.out.later hSw).cell 6
          simp only [List.getElem?_toArray, List.getElem?_cons_zero, List.getElem?_cons_succ] at x0 x1 x2 x3 x4 x5 x6
          go_simp
          try with_reducible rfl
        simp only [Act.put, List.setIfInBounds_toArray, List.set_cons_zero, List.set_cons_succ]
        refine wpAnyH_take (i := 2) (oi := { dst := some 51, op := Op.move (Operand.tmp 2), type := 25, pos := "outright.go:33", after := #[], guard := none }) (v := ?_) rfl (by kernel_rfl) (by kernel_rfl) (by kernel_rfl) (fun _ _ _ h => h) (Or.inl ⟨by rfl, ?_⟩) (by assumption) ?_
        rotate_left
        · intro W hSw
          clear hSw
          go_simp
          try with_reducible rfl
        simp only [Act.put, List.setIfInBounds_toArray, List.set_cons_zero, List.set_cons_succ]
        refine wpAnyH_take (i := 3) (oi := { dst := some 52, op := Op.move (Operand.tmp 3), type := 5, pos := "outright.go:33", after := #[], guard := none }) (v := ?_) rfl (by kernel_rfl) (by kernel_rfl) (by kernel_rfl) (fun _ _ _ h => h) (Or.inl ⟨by rfl, ?_⟩) (by assumption) ?_
        rotate_left
        · intro W hSw
          clear hSw
          go_simp
          try with_reducible rfl
        simp only [Act.put, List.setIfInBounds_toArray, List.set_cons_zero, List.set_cons_succ]
        refine wpAnyH_take (i := 4) (oi := { dst := some 53, op := Op.indexAddr 25 (Operand.tmp 51) (Operand.tmp 52), type := 0, pos := "outright.go:33", after := #[{ on := 2, ground := Ground.data }, { on := 3, ground := Ground.data }], guard := none }) (v := ?_) rfl (by kernel_rfl) (by kernel_rfl) (by kernel_rfl) (fun _ _ _ h => h) (Or.inl ⟨by rfl, ?_⟩) (by assumption) ?_
        rotate_left
        · intro W hSw
          clear hSw
          have i2 := i1
          go_simp
          try with_reducible rfl
        simp only [Act.put, List.setIfInBounds_toArray, List.set_cons_zero, List.set_cons_succ]
        refine wpAnyH_take (i := 5) (oi := { dst := some 54, op := Op.load 9 (Operand.tmp 53), type := 9, pos := "outright.go:33", after := #[{ on := 4, ground := Ground.data }], guard := none }) (v := ?_) rfl (by kernel_rfl) (by kernel_rfl) (by kernel_rfl) (fun _ _ _ h => h) (Or.inl ⟨by rfl, ?_⟩) (by assumption) ?_
        rotate_left
        · intro W hSw
          have t0 := sl_at (HN3.out.tx.later hSw) HRK2.out
          go_simp
          try with_reducible rfl
        simp only [Act.put, List.setIfInBounds_toArray, List.set_cons_zero, List.set_cons_succ]
        refine wpAnyH_ready (rs := [1]) (by kernel_rfl) (by simp) (AllReadyH.cons (o := { dst := some 50, op := Op.call { callee := Callee.value (Operand.func 12), args := #[Operand.tmp 49], argTypes := #[24] }, type := 9, pos := "outright.go:33", after := #[{ on := 0, ground := Ground.data }], guard := none }) rfl (fun K hK => ?_) AllReadyH.nil)
        have HCL := Lib.hid (HSHW.out _ (HN3.out.gl.later HH.out))
        go_simp
        refine HCL.out.mono ?_
        rintro e Wa ⟨rfl, hb⟩
        replace HH := Lib.hid (stepB HH.out hb)
        clear hb HCL hHeld
        refine hK.out _ _ HH.out (fun hHeld => ?_)
        clear hK K
        refine wpAnyH_take (i := 6) (oi := { dst := some 55, op := Op.binOp BinOp.neq 9 (Operand.tmp 50) (Operand.tmp 54) 9, type := 4, pos := "outright.go:33", after := #[{ on := 1, ground := Ground.data }, { on := 5, ground := Ground.data }], guard := none }) (v := ?_) rfl (by kernel_rfl) (by kernel_rfl) (by kernel_rfl) (fun _ _ _ h => h) (Or.inl ⟨by rfl, ?_⟩) (by assumption) ?_
        rotate_left
        · intro W hSw
          clear hSw
          go_simp
          try with_reducible rfl
        simp only [Act.put, List.setIfInBounds_toArray, List.set_cons_zero, List.set_cons_succ]
        refine wpAnyH_take (i := 7) (oi := { dst := some 56, op := Op.move (Operand.tmp 55), type := 4, pos := "outright.go:33", after := #[{ on := 6, ground := Ground.data }, { on := 1, ground := Ground.chain }], guard := none }) (v := ?_) rfl (by kernel_rfl) (by kernel_rfl) (by kernel_rfl) (fun _ _ _ h => h) (Or.inl ⟨by rfl, ?_⟩) (by assumption) ?_
        rotate_left
        · intro W hSw
          clear hSw
          go_simp
          try with_reducible rfl
        simp only [Act.put, List.setIfInBounds_toArray, List.set_cons_zero, List.set_cons_succ]
        refine wpAnyH_take (i := 8) (oi := { dst := some 57, op := Op.load 24 (Operand.tmp 1), type := 24, pos := "outright.go:33", after := #[{ on := 7, ground := Ground.guard }], guard := some (7, false) }) (v := ?_) rfl (by kernel_rfl) (by kernel_rfl) (by kernel_rfl) (fun _ _ _ h => h) (Or.inl ⟨by rfl, ?_⟩) (by assumption) ?_
        rotate_left
        · intro W hSw
          have x0 := (HBX.out.later hSw).cell 0
          have x1 := (HBX.out.later hSw).cell 1
          have x2 := (HBX.out.later hSw).cell 2
          have x3 := (HBX.out.later hSw).cell 3
          have x4 := (HBX.out.later hSw).cell 4
          have x5 := (HBX.out.later hSw).cell 5
          have x6 := (HBX.out.later hSw).cell 6
          simp only [List.getElem?_toArray, List.getElem?_cons_zero, List.getElem?_cons_succ] at x0 x1 x2 x3 x4 x5 x6
          go_simp
          try with_reducible rfl
        simp only [Act.put, List.setIfInBounds_toArray, List.set_cons_zero, List.set_cons_succ]
        refine wpAnyH_take (i := 11) (oi := { dst := some 60, op := Op.move (Operand.tmp 6), type := 4, pos := "outright.go:33", after := #[{ on := 7, ground := Ground.guard }], guard := some (7, false) }) (v := ?_) rfl (by kernel_rfl) (by kernel_rfl) (by kernel_rfl) (fun _ _ _ h => h) (Or.inl ⟨by rfl, ?_⟩) (by assumption) ?_
        rotate_left
        · intro W hSw
          clear hSw
          go_simp
          try with_reducible rfl
        simp only [Act.put, List.setIfInBounds_toArray, List.set_cons_zero, List.set_cons_succ]
        refine wpAnyH_ready (rs := [9]) (by kernel_rfl) (by simp) (AllReadyH.cons (o := { dst := some 58, op := Op.call { callee := Callee.value (Operand.func 13), args := #[Operand.tmp 57], argTypes := #[24] }, type := 26, pos := "outright.go:33", after := #[{ on := 8, ground := Ground.data }, { on := 7, ground := Ground.chain }, { on := 7, ground := Ground.guard }], guard := some (7, false) }) rfl (fun K hK => ?_) AllReadyH.nil)
        have HCL := Lib.hid (HMAY.out _ (HN3.out.gl.later HH.out))
        go_simp
        refine HCL.out.mono ?_
        rintro e Wb ⟨rfl, hb⟩
        replace HH := Lib.hid (stepB HH.out hb)
        clear hb HCL hHeld
        refine hK.out _ _ HH.out (fun hHeld => ?_)
        clear hK K
        refine wpAnyH_take (i := 10) (oi := { dst := some 59, op := Op.binOp BinOp.eql 26 (Operand.tmp 58) (Operand.const (Value.int IntKind.i64 0)) 26, type := 4, pos := "outright.go:33", after := #[{ on := 9, ground := Ground.data }, { on := 7, ground := Ground.guard }], guard := some (7, false) }) (v := ?_) rfl (by kernel_rfl) (by kernel_rfl) (by kernel_rfl) (fun _ _ _ h => h) (Or.inl ⟨by rfl, ?_⟩) (by assumption) ?_
        rotate_left
        · intro W hSw
          clear hSw
          go_simp
          try with_reducible rfl
        simp only [Act.put, List.setIfInBounds_toArray, List.set_cons_zero, List.set_cons_succ]
        refine wpAnyH_take (i := 12) (oi := { dst := some 61, op := Op.binOp BinOp.neq 4 (Operand.tmp 59) (Operand.tmp 60) 4, type := 4, pos := "outright.go:33", after := #[{ on := 10, ground := Ground.data }, { on := 11, ground := Ground.data }, { on := 7, ground := Ground.guard }], guard := some (7, false) }) (v := ?_) rfl (by kernel_rfl) (by kernel_rfl) (by kernel_rfl) (fun _ _ _ h => h) (Or.inl ⟨by rfl, ?_⟩) (by assumption) ?_
        rotate_left
        · intro W hSw
          clear hSw
          go_simp
          try with_reducible rfl
        simp only [Act.put, List.setIfInBounds_toArray, List.set_cons_zero, List.set_cons_succ]
        refine wpAnyH_take (i := 13) (oi := { dst := some 62, op := Op.pick (Operand.tmp 56) (Operand.const (Value.bool true)) (Operand.tmp 61), type := 4, pos := "outright.go:33", after := #[{ on := 7, ground := Ground.data }, { on := 12, ground := Ground.data }], guard := none }) (v := ?_) rfl (by kernel_rfl) (by kernel_rfl) (by kernel_rfl) (fun _ _ _ h => h) (Or.inl ⟨by rfl, ?_⟩) (by assumption) ?_
        rotate_left
        · intro W hSw
          clear hSw
          go_simp
          try with_reducible rfl
        simp only [Act.put, List.setIfInBounds_toArray, List.set_cons_zero, List.set_cons_succ]
        refine wpAnyH_take (i := 14) (oi := { dst := some 63, op := Op.move (Operand.tmp 62), type := 4, pos := "outright.go:33", after := #[{ on := 13, ground := Ground.data }, { on := 9, ground := Ground.chain }], guard := none }) (v := ?_) rfl (by kernel_rfl) (by kernel_rfl) (by kernel_rfl) (fun _ _ _ h => h) (Or.inl ⟨by rfl, ?_⟩) (by assumption) ?_
        rotate_left
        · intro W hSw
          clear hSw
          go_simp
          try with_reducible rfl
        simp only [Act.put, List.setIfInBounds_toArray, List.set_cons_zero, List.set_cons_succ]
        refine wpAnyH_take (i := 15) (oi := { dst := some 64, op := Op.move (Operand.tmp 5), type := 26, pos := "outright.go:33", after := #[{ on := 14, ground := Ground.guard }], guard := some (14, false) }) (v := ?_) rfl (by kernel_rfl) (by kernel_rfl) (by kernel_rfl) (fun _ _ _ h => h) (Or.inl ⟨by rfl, ?_⟩) (by assumption) ?_
        rotate_left
        · intro W hSw
          clear hSw
          go_simp
          try with_reducible rfl
        simp only [Act.put, List.setIfInBounds_toArray, List.set_cons_zero, List.set_cons_succ]
        refine wpAnyH_take (i := 16) (oi := { dst := some 65, op := Op.binOp BinOp.eql 26 (Operand.tmp 64) (Operand.const (Value.int IntKind.i64 0)) 26, type := 4, pos := "outright.go:33", after := #[{ on := 15, ground := Ground.data }, { on := 14, ground := Ground.guard }], guard := some (14, false) }) (v := ?_) rfl (by kernel_rfl) (by kernel_rfl) (by kernel_rfl) (fun _ _ _ h => h) (Or.inl ⟨by rfl, ?_⟩) (by assumption) ?_
        rotate_left
        · intro W hSw
          clear hSw
          go_simp
          try with_reducible rfl
        simp only [Act.put, List.setIfInBounds_toArray, List.set_cons_zero, List.set_cons_succ]
        refine wpAnyH_take (i := 17) (oi := { dst := some 66, op := Op.move (Operand.tmp 6), type := 4, pos := "outright.go:33", after := #[{ on := 14, ground := Ground.guard }], guard := some (14, false) }) (v := ?_) rfl (by kernel_rfl) (by kernel_rfl) (by kernel_rfl) (fun _ _ _ h => h) (Or.inl ⟨by rfl, ?_⟩) (by assumption) ?_
        rotate_left
        · intro W hSw
          clear hSw
          go_simp
          try with_reducible rfl
        simp only [Act.put, List.setIfInBounds_toArray, List.set_cons_zero, List.set_cons_succ]
        refine wpAnyH_take (i := 18) (oi := { dst := some 67, op := Op.binOp BinOp.neq 4 (Operand.tmp 65) (Operand.tmp 66) 4, type := 4, pos := "outright.go:33", after := #[{ on := 16, ground := Ground.data }, { on := 17, ground := Ground.data }, { on := 14, ground := Ground.guard }], guard := some (14, false) }) (v := ?_) rfl (by kernel_rfl) (by kernel_rfl) (by kernel_rfl) (fun _ _ _ h => h) (Or.inl ⟨by rfl, ?_⟩) (by assumption) ?_
        rotate_left
        · intro W hSw
          clear hSw
          go_simp
          try with_reducible rfl
        simp only [Act.put, List.setIfInBounds_toArray, List.set_cons_zero, List.set_cons_succ]
        refine wpAnyH_take (i := 19) (oi := { dst := some 68, op := Op.pick (Operand.tmp 63) (Operand.const (Value.bool true)) (Operand.tmp 67), type := 4, pos := "outright.go:33", after := #[{ on := 14, ground := Ground.data }, { on := 18, ground := Ground.data }], guard := none }) (v := ?_) rfl (by kernel_rfl) (by kernel_rfl) (by kernel_rfl) (fun _ _ _ h => h) (Or.inl ⟨by rfl, ?_⟩) (by assumption) ?_
        rotate_left
        · intro W hSw
          clear hSw
          go_simp
          try with_reducible rfl
        simp only [Act.put, List.setIfInBounds_toArray, List.set_cons_zero, List.set_cons_succ]
        refine wpAnyH_take (i := 20) (oi := { dst := some 69, op := Op.move (Operand.tmp 68), type := 4, pos := "outright.go:33", after := #[{ on := 19, ground := Ground.data }, { on := 14, ground := Ground.chain }], guard := none }) (v := ?_) rfl (by kernel_rfl) (by kernel_rfl) (by kernel_rfl) (fun _ _ _ h => h) (Or.inl ⟨by rfl, ?_⟩) (by assumption) ?_
        rotate_left
        · intro W hSw
          clear hSw
          go_simp
          try with_reducible rfl
        simp only [Act.put, List.setIfInBounds_toArray, List.set_cons_zero, List.set_cons_succ]
        refine wpAnyH_take (i := 21) (oi := { dst := some 70, op := Op.move (Operand.tmp 6), type := 4, pos := "outright.go:33", after := #[{ on := 20, ground := Ground.guard }], guard := some (20, false) }) (v := ?_) rfl (by kernel_rfl) (by kernel_rfl) (by kernel_rfl) (fun _ _ _ h => h) (Or.inl ⟨by rfl, ?_⟩) (by assumption) ?_
        rotate_left
        · intro W hSw
          clear hSw
          go_simp
          try with_reducible rfl
        simp only [Act.put, List.setIfInBounds_toArray, List.set_cons_zero, List.set_cons_succ]
        refine wpAnyH_take (i := 22) (oi := { dst := some 71, op := Op.move (Operand.tmp 70), type := 4, pos := "outright.go:33", after := #[{ on := 21, ground := Ground.data }, { on := 20, ground := Ground.chain }, { on := 20, ground := Ground.guard }], guard := some (20, false) }) (v := ?_) rfl (by kernel_rfl) (by kernel_rfl) (by kernel_rfl) (fun _ _ _ h => h) (Or.inl ⟨by rfl, ?_⟩) (by assumption) ?_
        rotate_left
        · intro W hSw
          clear hSw
          go_simp
          try with_reducible rfl
        simp only [Act.put, List.setIfInBounds_toArray, List.set_cons_zero, List.set_cons_succ]
        refine wpAnyH_take (i := 23) (oi := { dst := some 72, op := Op.load 24 (Operand.tmp 4), type := 24, pos := "outright.go:33", after := #[{ on := 22, ground := Ground.guard }], guard := some (22, true) }) (v := ?_) rfl (by kernel_rfl) (by kernel_rfl) (by kernel_rfl) (fun _ _ _ h => h) (Or.inl ⟨by rfl, ?_⟩) (by assumption) ?_
        rotate_left
        · intro W hSw
          have x0 := (HY.out.later hSw).cell 0
          have x1 := (HY.out.later hSw).cell 1
          have x2 := (HY.out.later hSw).cell 2
          have x3 := (HY.out.later hSw).cell 3
          have x4 := (HY.out.later hSw).cell 4
          have x5 := (HY.out.later hSw).cell 5
          have x6 := (HY.out.later hSw).cell 6
          simp only [List.getElem?_toArray, List.getElem?_cons_zero, List.getElem?_cons_succ] at x0 x1 x2 x3 x4 x5 x6
          go_simp
          try with_reducible rfl
        simp only [Act.put, List.setIfInBounds_toArray, List.set_cons_zero, List.set_cons_succ]
        refine wpAnyH_take (i := 24) (oi := { dst := some 73, op := Op.load 24 (Operand.tmp 1), type := 24, pos := "outright.go:33", after := #[{ on := 22, ground := Ground.guard }], guard := some (22, true) }) (v := ?_) rfl (by kernel_rfl) (by kernel_rfl) (by kernel_rfl) (fun _ _ _ h => h) (Or.inl ⟨by rfl, ?_⟩) (by assumption) ?_
        rotate_left
        · intro W hSw
          have x0 := (HBX.out.later hSw).cell 0
          have x1 := (HBX.out.later hSw).cell 1
          have x2 := (HBX.out.later hSw).cell 2
          have x3 := (HBX.out.later hSw).cell 3
          have x4 := (HBX.out.later hSw).cell 4
          have x5 := (HBX.out.later hSw).cell 5
          have x6 := (HBX.out.later hSw).cell 6
          simp only [List.getElem?_toArray, List.getElem?_cons_zero, List.getElem?_cons_succ] at x0 x1 x2 x3 x4 x5 x6
          go_simp
          try with_reducible rfl
        simp only [Act.put, List.setIfInBounds_toArray, List.set_cons_zero, List.set_cons_succ]
        refine wpAnyH_ready (rs := [25]) (by kernel_rfl) (by simp) (AllReadyH.cons (o := { dst := some 74, op := Op.call { callee := Callee.value (Operand.func 14), args := #[Operand.tmp 73], argTypes := #[24] }, type := 24, pos := "outright.go:33", after := #[{ on := 24, ground := Ground.data }, { on := 22, ground := Ground.chain }, { on := 22, ground := Ground.guard }], guard := some (22, true) }) rfl (fun K hK => ?_) AllReadyH.nil)
        have HCL := Lib.hid (HCLN.out _ (HN3.out.gl.later HH.out))
        go_simp
        refine HCL.out.mono ?_
        rintro e Wc ⟨rfl, hb⟩
        replace HH := Lib.hid (stepB HH.out hb)
        clear hb HCL hHeld
        refine hK.out _ _ HH.out (fun hHeld => ?_)
        clear hK K
        refine wpAnyH_take (i := 26) (oi := { dst := some 75, op := Op.binOp BinOp.neq 24 (Operand.tmp 72) (Operand.tmp 74) 24, type := 4, pos := "outright.go:33", after := #[{ on := 23, ground := Ground.data }, { on := 25, ground := Ground.data }, { on := 22, ground := Ground.guard }], guard := some (22, true) }) (v := ?_) rfl (by kernel_rfl) (by kernel_rfl) (by kernel_rfl) (fun _ _ _ h => h) (Or.inl ⟨by rfl, ?_⟩) (by assumption) ?_
        rotate_left
        · intro W hSw
          clear hSw
          have hne := HNQ.out
          go_simp
          try with_reducible rfl
        simp only [Act.put, List.setIfInBounds_toArray, List.set_cons_zero, List.set_cons_succ]
        refine wpAnyH_take (i := 27) (oi := { dst := some 76, op := Op.pick (Operand.tmp 71) (Operand.tmp 75) (Operand.const (Value.bool false)), type := 4, pos := "outright.go:33", after := #[{ on := 22, ground := Ground.data }, { on := 26, ground := Ground.data }, { on := 20, ground := Ground.guard }], guard := some (20, false) }) (v := ?_) rfl (by kernel_rfl) (by kernel_rfl) (by kernel_rfl) (fun _ _ _ h => h) (Or.inl ⟨by rfl, ?_⟩) (by assumption) ?_
        rotate_left
        · intro W hSw
          clear hSw
          go_simp
          try with_reducible rfl
        simp only [Act.put, List.setIfInBounds_toArray, List.set_cons_zero, List.set_cons_succ]
        refine wpAnyH_take (i := 28) (oi := { dst := some 77, op := Op.pick (Operand.tmp 69) (Operand.const (Value.bool true)) (Operand.tmp 76), type := 4, pos := "outright.go:33", after := #[{ on := 20, ground := Ground.data }, { on := 27, ground := Ground.data }], guard := none }) (v := ?_) rfl (by kernel_rfl) (by kernel_rfl) (by kernel_rfl) (fun _ _ _ h => h) (Or.inl ⟨by rfl, ?_⟩) (by assumption) ?_
        rotate_left
        · intro W hSw
          clear hSw
          go_simp
          try with_reducible rfl
        simp only [Act.put, List.setIfInBounds_toArray, List.set_cons_zero, List.set_cons_succ]
        refine wpAnyH_take (i := 29) (oi := { dst := some 78, op := Op.move (Operand.tmp 77), type := 4, pos := "outright.go:33", after := #[{ on := 28, ground := Ground.data }, { on := 25, ground := Ground.chain }], guard := none }) (v := ?_) rfl (by kernel_rfl) (by kernel_rfl) (by kernel_rfl) (fun _ _ _ h => h) (Or.inl ⟨by rfl, ?_⟩) (by assumption) ?_
        rotate_left
        · intro W hSw
          clear hSw
          go_simp
          try with_reducible rfl
        simp only [Act.put, List.setIfInBounds_toArray, List.set_cons_zero, List.set_cons_succ]
        refine wpAnyH_take (i := 30) (oi := { dst := some 79, op := Op.move (Operand.tmp 3), type := 5, pos := "outright.go:33", after := #[{ on := 29, ground := Ground.guard }], guard := some (29, false) }) (v := ?_) rfl (by kernel_rfl) (by kernel_rfl) (by kernel_rfl) (fun _ _ _ h => h) (Or.inl ⟨by rfl, ?_⟩) (by assumption) ?_
        rotate_left
        · intro W hSw
          clear hSw
          go_simp
          try with_reducible rfl
        simp only [Act.put, List.setIfInBounds_toArray, List.set_cons_zero, List.set_cons_succ]
        refine wpAnyH_take (i := 32) (oi := { dst := some 81, op := Op.move (Operand.tmp 3), type := 5, pos := "outright.go:33", after := #[{ on := 29, ground := Ground.guard }], guard := some (29, false) }) (v := ?_) rfl (by kernel_rfl) (by kernel_rfl) (by kernel_rfl) (fun _ _ _ h => h) (Or.inl ⟨by rfl, ?_⟩) (by assumption) ?_
        rotate_left
        · intro W hSw
          clear hSw
          go_simp
          try with_reducible rfl
        simp only [Act.put, List.setIfInBounds_toArray, List.set_cons_zero, List.set_cons_succ]
        refine wpAnyH_take (i := 33) (oi := { dst := some 82, op := Op.binOp BinOp.gtr 5 (Operand.tmp 81) (Operand.const (Value.int IntKind.u8 1)) 5, type := 4, pos := "outright.go:33", after := #[{ on := 32, ground := Ground.data }, { on := 29, ground := Ground.guard }], guard := some (29, false) }) (v := ?_) rfl (by kernel_rfl) (by kernel_rfl) (by kernel_rfl) (fun _ _ _ h => h) (Or.inl ⟨by rfl, ?_⟩) (by assumption) ?_
        rotate_left
        · intro W hSw
          clear hSw
          have q1 := g1
          go_simp
          try with_reducible rfl
        simp only [Act.put, List.setIfInBounds_toArray, List.set_cons_zero, List.set_cons_succ]
        refine wpAnyH_ready (rs := [31]) (by kernel_rfl) (by simp) (AllReadyH.cons (o := { dst := some 80, op := Op.call { callee := Callee.value (Operand.func 15), args := #[Operand.tmp 79], argTypes := #[5] }, type := 4, pos := "outright.go:33", after := #[{ on := 30, ground := Ground.data }, { on := 29, ground := Ground.chain }, { on := 29, ground := Ground.guard }], guard := some (29, false) }) rfl (fun K hK => ?_) AllReadyH.nil)
        have HCL := Lib.hid (HNEE.out _ (HN3.out.gl.later HH.out))
        go_simp
        refine HCL.out.mono ?_
        rintro e Wd ⟨rfl, hb⟩
        replace HH := Lib.hid (stepB HH.out hb)
        clear hb HCL hHeld
        refine hK.out _ _ HH.out (fun hHeld => ?_)
        clear hK K
        refine wpAnyH_take (i := 34) (oi := { dst := some 83, op := Op.move (Operand.tmp 82), type := 4, pos := "outright.go:33", after := #[{ on := 33, ground := Ground.data }, { on := 31, ground := Ground.chain }, { on := 29, ground := Ground.guard }], guard := some (29, false) }) (v := ?_) rfl (by kernel_rfl) (by kernel_rfl) (by kernel_rfl) (fun _ _ _ h => h) (Or.inl ⟨by rfl, ?_⟩) (by assumption) ?_
        rotate_left
        · intro W hSw
          clear hSw
          go_simp
          try with_reducible rfl
        simp only [Act.put, List.setIfInBounds_toArray, List.set_cons_zero, List.set_cons_succ]
        refine wpAnyH_take (i := 35) (oi := { dst := some 84, op := Op.move (Operand.tmp 3), type := 5, pos := "outright.go:33", after := #[{ on := 34, ground := Ground.guard }], guard := some (34, true) }) (v := undef) rfl (by kernel_rfl) (by kernel_rfl) (by kernel_rfl) (fun _ _ _ h => h) (Or.inr ⟨by rfl, rfl⟩) (by assumption) ?_
        simp only [Act.put, List.setIfInBounds_toArray, List.set_cons_zero, List.set_cons_succ]
        refine wpAnyH_take (i := 36) (oi := { dst := some 85, op := Op.binOp BinOp.lss 5 (Operand.tmp 84) (Operand.const (Value.int IntKind.u8 8)) 5, type := 4, pos := "outright.go:33", after := #[{ on := 35, ground := Ground.data }, { on := 34, ground := Ground.guard }], guard := some (34, true) }) (v := undef) rfl (by kernel_rfl) (by kernel_rfl) (by kernel_rfl) (fun _ _ _ h => h) (Or.inr ⟨by rfl, rfl⟩) (by assumption) ?_
        simp only [Act.put, List.setIfInBounds_toArray, List.set_cons_zero, List.set_cons_succ]
        refine wpAnyH_take (i := 37) (oi := { dst := some 86, op := Op.pick (Operand.tmp 83) (Operand.tmp 85) (Operand.const (Value.bool false)), type := 4, pos := "outright.go:33", after := #[{ on := 34, ground := Ground.data }, { on := 36, ground := Ground.data }, { on := 29, ground := Ground.guard }], guard := some (29, false) }) (v := ?_) rfl (by kernel_rfl) (by kernel_rfl) (by kernel_rfl) (fun _ _ _ h => h) (Or.inl ⟨by rfl, ?_⟩) (by assumption) ?_
        rotate_left
        · intro W hSw
          clear hSw
          go_simp
          try with_reducible rfl
        simp only [Act.put, List.setIfInBounds_toArray, List.set_cons_zero, List.set_cons_succ]
        refine wpAnyH_take (i := 38) (oi := { dst := some 87, op := Op.binOp BinOp.neq 4 (Operand.tmp 80) (Operand.tmp 86) 4, type := 4, pos := "outright.go:33", after := #[{ on := 31, ground := Ground.data }, { on := 37, ground := Ground.data }, { on := 29, ground := Ground.guard }], guard := some (29, false) }) (v := ?_) rfl (by kernel_rfl) (by kernel_rfl) (by kernel_rfl) (fun _ _ _ h => h) (Or.inl ⟨by rfl, ?_⟩) (by assumption) ?_
        rotate_left
        · intro W hSw
          clear hSw
          go_simp
          try with_reducible rfl
        simp only [Act.put, List.setIfInBounds_toArray, List.set_cons_zero, List.set_cons_succ]
        refine wpAnyH_take (i := 39) (oi := { dst := some 88, op := Op.pick (Operand.tmp 78) (Operand.const (Value.bool true)) (Operand.tmp 87), type := 4, pos := "outright.go:33", after := #[{ on := 29, ground := Ground.data }, { on := 38, ground := Ground.data }], guard := none }) (v := ?_) rfl (by kernel_rfl) (by kernel_rfl) (by kernel_rfl) (fun _ _ _ h => h) (Or.inl ⟨by rfl, ?_⟩) (by assumption) ?_
        rotate_left
        · intro W hSw
          clear hSw
          go_simp
          try with_reducible rfl
        simp only [Act.put, List.setIfInBounds_toArray, List.set_cons_zero, List.set_cons_succ]
        refine wpAnyH_take (i := 40) (oi := { dst := some 89, op := Op.move (Operand.tmp 88), type := 4, pos := "outright.go:33", after := #[{ on := 39, ground := Ground.data }, { on := 34, ground := Ground.chain }], guard := none }) (v := ?_) rfl (by kernel_rfl) (by kernel_rfl) (by kernel_rfl) (fun _ _ _ h => h) (Or.inl ⟨by rfl, ?_⟩) (by assumption) ?_
        rotate_left
        · intro W hSw
          clear hSw
          go_simp
          try with_reducible rfl
        simp only [Act.put, List.setIfInBounds_toArray, List.set_cons_zero, List.set_cons_succ]
        refine wpAnyH_take (i := 41) (oi := { dst := some 90, op := Op.load 24 (Operand.tmp 1), type := 24, pos := "outright.go:33", after := #[{ on := 40, ground := Ground.guard }], guard := some (40, false) }) (v := ?_) rfl (by kernel_rfl) (by kernel_rfl) (by kernel_rfl) (fun _ _ _ h => h) (Or.inl ⟨by rfl, ?_⟩) (by assumption) ?_
        rotate_left
        · intro W hSw
          have x0 := (HBX.out.later hSw).cell 0
          have x1 := (HBX.out.later hSw).cell 1
          have x2 := (HBX.out.later hSw).cell 2
          have x3 := (HBX.out.later hSw).cell 3
          have x4 := (HBX.out.later hSw).cell 4
          have x5 := (HBX.out.later hSw).cell 5
          have x6 := (HBX.out.later hSw).cell 6
          simp only [List.getElem?_toArray, List.getElem?_cons_zero, List.getElem?_cons_succ] at x0 x1 x2 x3 x4 x5 x6
          go_simp
          try with_reducible rfl
        simp only [Act.put, List.setIfInBounds_toArray, List.set_cons_zero, List.set_cons_succ]
        refine wpAnyH_take (i := 42) (oi := { dst := some 91, op := Op.load 24 (Operand.tmp 1), type := 24, pos := "outright.go:33", after := #[{ on := 40, ground := Ground.guard }], guard := some (40, false) }) (v := ?_) rfl (by kernel_rfl) (by kernel_rfl) (by kernel_rfl) (fun _ _ _ h => h) (Or.inl ⟨by rfl, ?_⟩) (by assumption) ?_
        rotate_left
        · intro W hSw
          have x0 := (HBX.out.later hSw).cell 0
          have x1 := (HBX.out.later hSw).cell 1
          have x2 := (HBX.out.later hSw).cell 2
          have x3 := (HBX.out.later hSw).cell 3
          have x4 := (HBX.out.later hSw).cell 4
          have x5 := (HBX.out.later hSw).cell 5
          have x6 := (HBX.out.later hSw).cell 6
          simp only [List.getElem?_toArray, List.getElem?_cons_zero, List.getElem?_cons_succ] at x0 x1 x2 x3 x4 x5 x6
          go_simp
          try with_reducible rfl
        simp only [Act.put, List.setIfInBounds_toArray, List.set_cons_zero, List.set_cons_succ]
        refine wpAnyH_ready (rs := [43]) (by kernel_rfl) (by simp) (AllReadyH.cons (o := { dst := some 92, op := Op.call { callee := Callee.value (Operand.func 14), args := #[Operand.tmp 91], argTypes := #[24] }, type := 24, pos := "outright.go:33", after := #[{ on := 42, ground := Ground.data }, { on := 40, ground := Ground.chain }, { on := 40, ground := Ground.guard }], guard := some (40, false) }) rfl (fun K hK => ?_) AllReadyH.nil)
        have HCL := Lib.hid (HCLN.out _ (HN3.out.gl.later HH.out))
        go_simp
        refine HCL.out.mono ?_
        rintro e We ⟨rfl, hb⟩
        replace HH := Lib.hid (stepB HH.out hb)
        clear hb HCL hHeld
        refine hK.out _ _ HH.out (fun hHeld => ?_)
        clear hK K
        refine wpAnyH_ready (rs := [44]) (by kernel_rfl) (by simp) (AllReadyH.cons (o := { dst := some 93, op := Op.call { callee := Callee.value (Operand.func 16), args := #[Operand.tmp 90, Operand.tmp 92], argTypes := #[24, 24] }, type := 4, pos := "outright.go:33", after := #[{ on := 41, ground := Ground.data }, { on := 43, ground := Ground.data }, { on := 43, ground := Ground.chain }, { on := 40, ground := Ground.guard }], guard := some (40, false) }) rfl (fun K hK => ?_) AllReadyH.nil)
        have HCL := Lib.hid (HSAM.out _ (HN3.out.gl.later HH.out))
        go_simp
        refine HCL.out.mono ?_
        rintro e Wf ⟨rfl, hb⟩
        replace HH := Lib.hid (stepB HH.out hb)
        clear hb HCL hHeld
        refine hK.out _ _ HH.out (fun hHeld => ?_)
        clear hK K
        refine wpAnyH_take (i := 45) (oi := { dst := some 94, op := Op.unOp UnOp.not 4 (Operand.tmp 93), type := 4, pos := "outright.go:33", after := #[{ on := 44, ground := Ground.data }, { on := 40, ground := Ground.guard }], guard := some (40, false) }) (v := ?_) rfl (by kernel_rfl) (by kernel_rfl) (by kernel_rfl) (fun _ _ _ h => h) (Or.inl ⟨by rfl, ?_⟩) (by assumption) ?_
        rotate_left
        · intro W hSw
          clear hSw
          go_simp
          try with_reducible rfl
        simp only [Act.put, List.setIfInBounds_toArray, List.set_cons_zero, List.set_cons_succ]
        refine wpAnyH_take (i := 46) (oi := { dst := some 95, op := Op.pick (Operand.tmp 89) (Operand.const (Value.bool true)) (Operand.tmp 94), type := 4, pos := "outright.go:33", after := #[{ on := 40, ground := Ground.data }, { on := 45, ground := Ground.data }], guard := none }) (v := ?_) rfl (by kernel_rfl) (by kernel_rfl) (by kernel_rfl) (fun _ _ _ h => h) (Or.inl ⟨by rfl, ?_⟩) (by assumption) ?_
        rotate_left
        · intro W hSw
          clear hSw
          go_simp
          try with_reducible rfl
        simp only [Act.put, List.setIfInBounds_toArray, List.set_cons_zero, List.set_cons_succ]
        refine wpAnyH_done (by kernel_rfl) (NoPanic.normal ?_) _
        have HF := Lib.hid (HN3.out.later HH.out)
        clear hHeld HH HSHW HMAY HCLN HSAM HNEE HNQ HBX
        go_wp2
        go_roundw
        case rel => exact ⟨k + 1, (k : Int), by omega, by go_num, HF.out⟩
        case measure => simp [intOf]; omega
      · have HKC : Hid (2 ≤ k ∧ k ≤ 7) := Lib.hid (by omega)
        clear hk2
        have m1 : mayK k = true := by have hkc := HKC.out; unfold mayK; simp; omega
        have HPA := parse_any s w6 (by have := HAL.out.2.2.2.2.2.2.2; omega) HN2.out.gl
        rw [parV_eq] at HPA
        rw [show parC s = (kn3, tx3, ke3, en3, va3, li3, eg3) by unfold parC; rw [HAL.out.2.1, m1]; exact HAL.out.2.2.2.1 m1, show parE s = 0 by unfold parE; rw [HAL.out.2.1, m1]; rfl] at HPA
        unfold clV at HPA
        simp only at HPA
        have HPB := Lib.hid HPA
        clear HPA
        go_wp2_with fail
        refine HPB.out.mono ?_
        rintro e w7 ⟨rfl, hb⟩
        have hby : Below w7.heap.size w7 (w7.alloc (.cells #[.int .u8 (kn3 : Int), .int .i64 tx3, .string ke3, .string en3, .string va3, .int .i64 li3, .int .u8 (eg3 : Int)] 24)) := (Below.refl _ _).alloc (Nat.le_refl _) _
        have HY : Hid (Blk (w7.alloc (.cells #[.int .u8 (kn3 : Int), .int .i64 tx3, .string ke3, .string en3, .string va3, .int .i64 li3, .int .u8 (eg3 : Int)] 24)) w7.heap.size #[.int .u8 (kn3 : Int), .int .i64 tx3, .string ke3, .string en3, .string va3, .int .i64 li3, .int .u8 (eg3 : Int)] 24) := Blk.new _ _ _
        have HN3 := Lib.hid ((HN2.out.later hb).later hby)
        clear hb hby HPB t0 HN2
        go_upto_region 10 with (fail)
        generalize w7.alloc (.cells #[.int .u8 (kn3 : Int), .int .i64 tx3, .string ke3, .string en3, .string va3, .int .i64 li3, .int .u8 (eg3 : Int)] 24) = w8 at *
        obtain ⟨py, hpy⟩ : ∃ x, w7.heap.size = x := ⟨_, rfl⟩
        rw [hpy] at HY ⊢
        clear hpy
        have p0 : decide ((0 : Int) < (k : Int)) = true := by have hkc := HKC.out; simp; omega
        have p0' : decide (0 < k) = true := by have hkc := HKC.out; simp; omega
        have p1 : decide ((k : Int) < 10) = true := by have hkc := HKC.out; simp; omega
        have g1 : decide ((1 : Int) < (k : Int)) = true := by have hkc := HKC.out; simp; omega
        have g2 : decide ((k : Int) < 8) = true := by have hkc := HKC.out; simp; omega

        go_upto_region 11 with (fail)
        have HSHW : Hid (∀ V, Gl V → Calls Tryd.prog 12 #[.agg #[.int .u8 (k : Int), .int .i64 (-3), .string { data := #[107] }, .string { data := #[255, 0] }, .string { data := #[118] }, .int .i64 7, .int .u8 2]] V fun e w' => e = .returned (.string s) ∧ Below V.heap.size V w') := Lib.hid (fun V hV => by
          have hm9 : (10 : Nat) ≤ 100000 := by decide
          have h := show_any (allC k) V ⟨by show k ≤ 255; omega, by show (2 : Nat) ≤ 255; decide, by show (-9223372036854775808 : Int) ≤ -3 ∧ (-3 : Int) ≤ 9223372036854775807; omega, by show (-9223372036854775808 : Int) ≤ 7 ∧ (7 : Int) ≤ 9223372036854775807; omega, by show (1 : Nat) ≤ 100000; decide, by show (2 : Nat) ≤ 100000; decide, by show (1 : Nat) ≤ 100000; decide⟩ hV (by have := HAL.out.2.2.2.2.2.2.1; omega)
          rw [HAL.out.1] at h
          exact h)
        have HMAY : Hid (∀ V, Gl V → Calls Tryd.prog 13 #[.agg #[.int .u8 (k : Int), .int .i64 (-3), .string { data := #[107] }, .string { data := #[255, 0] }, .string { data := #[118] }, .int .i64 7, .int .u8 2]] V fun e w' => e = .returned (.int .i64 0) ∧ Below V.heap.size V w') := Lib.hid (fun V hV => by
          have h := may_any (allC k) V (by show k ≤ 255; omega) (by show (2 : Nat) ≤ 255; decide) hV
          rw [HAL.out.2.2.1, m1] at h
          exact h)
        have HCLN : Hid (∀ V, Gl V → Calls Tryd.prog 14 #[.agg #[.int .u8 (k : Int), .int .i64 (-3), .string { data := #[107] }, .string { data := #[255, 0] }, .string { data := #[118] }, .int .i64 7, .int .u8 2]] V fun e w' => e = .returned (.agg #[.int .u8 (kn3 : Int), .int .i64 tx3, .string ke3, .string en3, .string va3, .int .i64 li3, .int .u8 (eg3 : Int)]) ∧ Below V.heap.size V w') := Lib.hid (fun V hV => by
          have h := clean_any k (-3) { data := #[107] } { data := #[255, 0] } { data := #[118] } 7 2 V (by omega) hV
          rw [show clnC (k, -3, { data := #[107] }, { data := #[255, 0] }, { data := #[118] }, 7, 2) = (kn3, tx3, ke3, en3, va3, li3, eg3) from HC3.out] at h
          exact h)
        have HSAM : Hid (∀ V, Gl V → Calls Tryd.prog 16 #[.agg #[.int .u8 (k : Int), .int .i64 (-3), .string { data := #[107] }, .string { data := #[255, 0] }, .string { data := #[118] }, .int .i64 7, .int .u8 2], .agg #[.int .u8 (kn3 : Int), .int .i64 tx3, .string ke3, .string en3, .string va3, .int .i64 li3, .int .u8 (eg3 : Int)]] V fun e w' => e = .returned (.bool true) ∧ Below V.heap.size V w') := Lib.hid (fun V hV => by
          have hk3 : kn3 ≤ 255 := by
            have h1 := congrArg (fun z : Cl => z.1) HC3.out
            have h2 : k = kn3 := h1
            omega
          have h := same_any k (-3) { data := #[107] } { data := #[255, 0] } { data := #[118] } 7 2 kn3 tx3 ke3 en3 va3 li3 eg3 V (by omega) hk3 hV
          rw [show sameC (k, -3, { data := #[107] }, { data := #[255, 0] }, { data := #[118] }, 7, 2) (kn3, tx3, ke3, en3, va3, li3, eg3) = true from HAL.out.2.2.2.2.2.1] at h
          exact h)
        have HNEE : Hid (∀ V, Gl V → Calls Tryd.prog 15 #[.int .u8 (k : Int)] V fun e w' => e = .returned (.bool true) ∧ Below V.heap.size V w') := Lib.hid (fun V hV => by
          have h := needs_any k V (by omega) hV
          rw [HAL.out.2.2.2.2.1, show (decide (2 ≤ k) && decide (k ≤ 7)) = true by have hkc := HKC.out; simp; omega] at h
          exact h)
        have HNQ : Hid (∀ V : World, (binOp .neq 24 (.agg #[.int .u8 (kn3 : Int), .int .i64 tx3, .string ke3, .string en3, .string va3, .int .i64 li3, .int .u8 (eg3 : Int)]) (.agg #[.int .u8 (kn3 : Int), .int .i64 tx3, .string ke3, .string en3, .string va3, .int .i64 li3, .int .u8 (eg3 : Int)])).run Tryd.prog V = .ok (.bool false) V) := Lib.hid (fun V => by
          have h := neq24 (kn3, tx3, ke3, en3, va3, li3, eg3) (kn3, tx3, ke3, en3, va3, li3, eg3) V
          rw [decide_eq_true rfl] at h
          exact h)
        have HRK2 := HRK
        clear m1 d2
        refine wp_region_noPanic ?_
        obtain ⟨W0, rfl⟩ : ∃ W0 : World, W0 = w8 := ⟨_, rfl⟩
        refine wp_region_held_drew (S := fun W => Below W0.heap.size W0 W) (by kernel_rfl) (Below.drew (Below.refl _ _)) (fun hHeld => ?_)
        have HH := Lib.hid hHeld
        have HBX := Lib.hid HN3.out.bx
        refine wpAnyH_take (i := 0) (oi := { dst := some 49, op := Op.load 24 (Operand.tmp 1), type := 24, pos := "outright.go:33", after := #[], guard := none }) (v := ?_) rfl (by kernel_rfl) (by kernel_rfl) (by kernel_rfl) (fun _ _ _ h => h) (Or.inl ⟨by rfl, ?_⟩) (by assumption) ?_
        rotate_left
        · intro W hSw
          have x0 := (HBX.out.later hSw).cell 0
          have x1 := (HBX.out.later hSw).cell 1
          have x2 := (HBX.out.later hSw).cell 2
          have x3 := (HBX.out.later hSw).cell 3
          have x4 := (HBX.out.later hSw).cell 4
          have x5 := (HBX.out.later hSw).cell 5
          have x6 := (HBX.out.later hSw).cell 6
          simp only [List.getElem?_toArray, List.getElem?_cons_zero, List.getElem?_cons_succ] at x0 x1 x2 x3 x4 x5 x6
          go_simp
          try with_reducible rfl
        simp only [Act.put, List.setIfInBounds_toArray, List.set_cons_zero, List.set_cons_succ]
        refine wpAnyH_take (i := 2) (oi := { dst := some 51, op := Op.move (Operand.tmp 2), type := 25, pos := "outright.go:33", after := #[], guard := none }) (v := ?_) rfl (by kernel_rfl) (by kernel_rfl) (by kernel_rfl) (fun _ _ _ h => h) (Or.inl ⟨by rfl, ?_⟩) (by assumption) ?_
        rotate_left
        · intro W hSw
          clear hSw
          go_simp
          try with_reducible rfl
        simp only [Act.put, List.setIfInBounds_toArray, List.set_cons_zero, List.set_cons_succ]
        refine wpAnyH_take (i := 3) (oi := { dst := some 52, op := Op.move (Operand.tmp 3), type := 5, pos := "outright.go:33", after := #[], guard := none }) (v := ?_) rfl (by kernel_rfl) (by kernel_rfl) (by kernel_rfl) (fun _ _ _ h => h) (Or.inl ⟨by rfl, ?_⟩) (by assumption) ?_
        rotate_left
        · intro W hSw
          clear hSw
          go_simp
          try with_reducible rfl
        simp only [Act.put, List.setIfInBounds_toArray, List.set_cons_zero, List.set_cons_succ]
        refine wpAnyH_take (i := 4) (oi := { dst := some 53, op := Op.indexAddr 25 (Operand.tmp 51) (Operand.tmp 52), type := 0, pos := "outright.go:33", after := #[{ on := 2, ground := Ground.data }, { on := 3, ground := Ground.data }], guard := none }) (v := ?_) rfl (by kernel_rfl) (by kernel_rfl) (by kernel_rfl) (fun _ _ _ h => h) (Or.inl ⟨by rfl, ?_⟩) (by assumption) ?_
        rotate_left
        · intro W hSw
          clear hSw
          have i2 := i1
          go_simp
          try with_reducible rfl
        simp only [Act.put, List.setIfInBounds_toArray, List.set_cons_zero, List.set_cons_succ]
        refine wpAnyH_take (i := 5) (oi := { dst := some 54, op := Op.load 9 (Operand.tmp 53), type := 9, pos := "outright.go:33", after := #[{ on := 4, ground := Ground.data }], guard := none }) (v := ?_) rfl (by kernel_rfl) (by kernel_rfl) (by kernel_rfl) (fun _ _ _ h => h) (Or.inl ⟨by rfl, ?_⟩) (by assumption) ?_
        rotate_left
        · intro W hSw
          have t0 := sl_at (HN3.out.tx.later hSw) HRK2.out
          go_simp
          try with_reducible rfl
        simp only [Act.put, List.setIfInBounds_toArray, List.set_cons_zero, List.set_cons_succ]
        refine wpAnyH_ready (rs := [1]) (by kernel_rfl) (by simp) (AllReadyH.cons (o := { dst := some 50, op := Op.call { callee := Callee.value (Operand.func 12), args := #[Operand.tmp 49], argTypes := #[24] }, type := 9, pos := "outright.go:33", after := #[{ on := 0, ground := Ground.data }], guard := none }) rfl (fun K hK => ?_) AllReadyH.nil)
        have HCL := Lib.hid (HSHW.out _ (HN3.out.gl.later HH.out))
        go_simp
        refine HCL.out.mono ?_
        rintro e Wa ⟨rfl, hb⟩
        replace HH := Lib.hid (stepB HH.out hb)
        clear hb HCL hHeld
        refine hK.out _ _ HH.out (fun hHeld => ?_)
        clear hK K
        refine wpAnyH_take (i := 6) (oi := { dst := some 55, op := Op.binOp BinOp.neq 9 (Operand.tmp 50) (Operand.tmp 54) 9, type := 4, pos := "outright.go:33", after := #[{ on := 1, ground := Ground.data }, { on := 5, ground := Ground.data }], guard := none }) (v := ?_) rfl (by kernel_rfl) (by kernel_rfl) (by kernel_rfl) (fun _ _ _ h => h) (Or.inl ⟨by rfl, ?_⟩) (by assumption) ?_
        rotate_left
        · intro W hSw
          clear hSw
          go_simp
          try with_reducible rfl
        simp only [Act.put, List.setIfInBounds_toArray, List.set_cons_zero, List.set_cons_succ]
        refine wpAnyH_take (i := 7) (oi := { dst := some 56, op := Op.move (Operand.tmp 55), type := 4, pos := "outright.go:33", after := #[{ on := 6, ground := Ground.data }, { on := 1, ground := Ground.chain }], guard := none }) (v := ?_) rfl (by kernel_rfl) (by kernel_rfl) (by kernel_rfl) (fun _ _ _ h => h) (Or.inl ⟨by rfl, ?_⟩) (by assumption) ?_
        rotate_left
        · intro W hSw
          clear hSw
          go_simp
          try with_reducible rfl
        simp only [Act.put, List.setIfInBounds_toArray, List.set_cons_zero, List.set_cons_succ]
        refine wpAnyH_take (i := 8) (oi := { dst := some 57, op := Op.load 24 (Operand.tmp 1), type := 24, pos := "outright.go:33", after := #[{ on := 7, ground := Ground.guard }], guard := some (7, false) }) (v := ?_) rfl (by kernel_rfl) (by kernel_rfl) (by kernel_rfl) (fun _ _ _ h => h) (Or.inl ⟨by rfl, ?_⟩) (by assumption) ?_
        rotate_left
        · intro W hSw
          have x0 := (HBX.out.later hSw).cell 0
          have x1 := (HBX.out.later hSw).cell 1
          have x2 := (HBX.out.later hSw).cell 2
          have x3 := (HBX.out.later hSw).cell 3
          have x4 := (HBX.out.later hSw).cell 4
          have x5 := (HBX.out.later hSw).cell 5
          have x6 := (HBX.out.later hSw).cell 6
          simp only [List.getElem?_toArray, List.getElem?_cons_zero, List.getElem?_cons_succ] at x0 x1 x2 x3 x4 x5 x6
          go_simp
          try with_reducible rfl
        simp only [Act.put, List.setIfInBounds_toArray, List.set_cons_zero, List.set_cons_succ]
        refine wpAnyH_take (i := 11) (oi := { dst := some 60, op := Op.move (Operand.tmp 6), type := 4, pos := "outright.go:33", after := #[{ on := 7, ground := Ground.guard }], guard := some (7, false) }) (v := ?_) rfl (by kernel_rfl) (by kernel_rfl) (by kernel_rfl) (fun _ _ _ h => h) (Or.inl ⟨by rfl, ?_⟩) (by assumption) ?_
        rotate_left
        · intro W hSw
          clear hSw
          go_simp
          try with_reducible rfl
        simp only [Act.put, List.setIfInBounds_toArray, List.set_cons_zero, List.set_cons_succ]
        refine wpAnyH_ready (rs := [9]) (by kernel_rfl) (by simp) (AllReadyH.cons (o := { dst := some 58, op := Op.call { callee := Callee.value (Operand.func 13), args := #[Operand.tmp 57], argTypes := #[24] }, type := 26, pos := "outright.go:33", after := #[{ on := 8, ground := Ground.data }, { on := 7, ground := Ground.chain }, { on := 7, ground := Ground.guard }], guard := some (7, false) }) rfl (fun K hK => ?_) AllReadyH.nil)
        have HCL := Lib.hid (HMAY.out _ (HN3.out.gl.later HH.out))
        go_simp
        refine HCL.out.mono ?_
        rintro e Wb ⟨rfl, hb⟩
        replace HH := Lib.hid (stepB HH.out hb)
        clear hb HCL hHeld
        refine hK.out _ _ HH.out (fun hHeld => ?_)
        clear hK K
        refine wpAnyH_take (i := 10) (oi := { dst := some 59, op := Op.binOp BinOp.eql 26 (Operand.tmp 58) (Operand.const (Value.int IntKind.i64 0)) 26, type := 4, pos := "outright.go:33", after := #[{ on := 9, ground := Ground.data }, { on := 7, ground := Ground.guard }], guard := some (7, false) }) (v := ?_) rfl (by kernel_rfl) (by kernel_rfl) (by kernel_rfl) (fun _ _ _ h => h) (Or.inl ⟨by rfl, ?_⟩) (by assumption) ?_
        rotate_left
        · intro W hSw
          clear hSw
          go_simp
          try with_reducible rfl
        simp only [Act.put, List.setIfInBounds_toArray, List.set_cons_zero, List.set_cons_succ]
        refine wpAnyH_take (i := 12) (oi := { dst := some 61, op := Op.binOp BinOp.neq 4 (Operand.tmp 59) (Operand.tmp 60) 4, type := 4, pos := "outright.go:33", after := #[{ on := 10, ground := Ground.data }, { on := 11, ground := Ground.data }, { on := 7, ground := Ground.guard }], guard := some (7, false) }) (v := ?_) rfl (by kernel_rfl) (by kernel_rfl) (by kernel_rfl) (fun _ _ _ h => h) (Or.inl ⟨by rfl, ?_⟩) (by assumption) ?_
        rotate_left
        · intro W hSw
          clear hSw
          go_simp
          try with_reducible rfl
        simp only [Act.put, List.setIfInBounds_toArray, List.set_cons_zero, List.set_cons_succ]
        refine wpAnyH_take (i := 13) (oi := { dst := some 62, op := Op.pick (Operand.tmp 56) (Operand.const (Value.bool true)) (Operand.tmp 61), type := 4, pos := "outright.go:33", after := #[{ on := 7, ground := Ground.data }, { on := 12, ground := Ground.data }], guard := none }) (v := ?_) rfl (by kernel_rfl) (by kernel_rfl) (by kernel_rfl) (fun _ _ _ h => h) (Or.inl ⟨by rfl, ?_⟩) (by assumption) ?_
        rotate_left
        · intro W hSw
          clear hSw
          go_simp
          try with_reducible rfl
        simp only [Act.put, List.setIfInBounds_toArray, List.set_cons_zero, List.set_cons_succ]
        refine wpAnyH_take (i := 14) (oi := { dst := some 63, op := Op.move (Operand.tmp 62), type := 4, pos := "outright.go:33", after := #[{ on := 13, ground := Ground.data }, { on := 9, ground := Ground.chain }], guard := none }) (v := ?_) rfl (by kernel_rfl) (by kernel_rfl) (by kernel_rfl) (fun _ _ _ h => h) (Or.inl ⟨by rfl, ?_⟩) (by assumption) ?_
        rotate_left
        · intro W hSw
          clear hSw
          go_simp
          try with_reducible rfl
        simp only [Act.put, List.setIfInBounds_toArray, List.set_cons_zero, List.set_cons_succ]
        refine wpAnyH_take (i := 15) (oi := { dst := some 64, op := Op.move (Operand.tmp 5), type := 26, pos := "outright.go:33", after := #[{ on := 14, ground := Ground.guard }], guard := some (14, false) }) (v := ?_) rfl (by kernel_rfl) (by kernel_rfl) (by kernel_rfl) (fun _ _ _ h => h) (Or.inl ⟨by rfl, ?_⟩) (by assumption) ?_
        rotate_left
        · intro W hSw
          clear hSw
          go_simp
          try with_reducible rfl
        simp only [Act.put, List.setIfInBounds_toArray, List.set_cons_zero, List.set_cons_succ]
        refine wpAnyH_take (i := 16) (oi := { dst := some 65, op := Op.binOp BinOp.eql 26 (Operand.tmp 64) (Operand.const (Value.int IntKind.i64 0)) 26, type := 4, pos := "outright.go:33", after := #[{ on := 15, ground := Ground.data }, { on := 14, ground := Ground.guard }], guard := some (14, false) }) (v := ?_) rfl (by kernel_rfl) (by kernel_rfl) (by kernel_rfl) (fun _ _ _ h => h) (Or.inl ⟨by rfl, ?_⟩) (by assumption) ?_
        rotate_left
        · intro W hSw
          clear hSw
          go_simp
          try with_reducible rfl
        simp only [Act.put, List.setIfInBounds_toArray, List.set_cons_zero, List.set_cons_succ]
        refine wpAnyH_take (i := 17) (oi := { dst := some 66, op := Op.move (Operand.tmp 6), type := 4, pos := "outright.go:33", after := #[{ on := 14, ground := Ground.guard }], guard := some (14, false) }) (v := ?_) rfl (by kernel_rfl) (by kernel_rfl) (by kernel_rfl) (fun _ _ _ h => h) (Or.inl ⟨by rfl, ?_⟩) (by assumption) ?_
        rotate_left
        · intro W hSw
          clear hSw
          go_simp
          try with_reducible rfl
        simp only [Act.put, List.setIfInBounds_toArray, List.set_cons_zero, List.set_cons_succ]
        refine wpAnyH_take (i := 18) (oi := { dst := some 67, op := Op.binOp BinOp.neq 4 (Operand.tmp 65) (Operand.tmp 66) 4, type := 4, pos := "outright.go:33", after := #[{ on := 16, ground := Ground.data }, { on := 17, ground := Ground.data }, { on := 14, ground := Ground.guard }], guard := some (14, false) }) (v := ?_) rfl (by kernel_rfl) (by kernel_rfl) (by kernel_rfl) (fun _ _ _ h => h) (Or.inl ⟨by rfl, ?_⟩) (by assumption) ?_
        rotate_left
        · intro W hSw
          clear hSw
          go_simp
          try with_reducible rfl
        simp only [Act.put, List.setIfInBounds_toArray, List.set_cons_zero, List.set_cons_succ]
        refine wpAnyH_take (i := 19) (oi := { dst := some 68, op := Op.pick (Operand.tmp 63) (Operand.const (Value.bool true)) (Operand.tmp 67), type := 4, pos := "outright.go:33", after := #[{ on := 14, ground := Ground.data }, { on := 18, ground := Ground.data }], guard := none }) (v := ?_) rfl (by kernel_rfl) (by kernel_rfl) (by kernel_rfl) (fun _ _ _ h => h) (Or.inl ⟨by rfl, ?_⟩) (by assumption) ?_
        rotate_left
        · intro W hSw
          clear hSw
          go_simp
          try with_reducible rfl
        simp only [Act.put, List.setIfInBounds_toArray, List.set_cons_zero, List.set_cons_succ]
        refine wpAnyH_take (i := 20) (oi := { dst := some 69, op := Op.move (Operand.tmp 68), type := 4, pos := "outright.go:33", after := #[{ on := 19, ground := Ground.data }, { on := 14, ground := Ground.chain }], guard := none }) (v := ?_) rfl (by kernel_rfl) (by kernel_rfl) (by kernel_rfl) (fun _ _ _ h => h) (Or.inl ⟨by rfl, ?_⟩) (by assumption) ?_
        rotate_left
        · intro W hSw
          clear hSw
          go_simp
          try with_reducible rfl
        simp only [Act.put, List.setIfInBounds_toArray, List.set_cons_zero, List.set_cons_succ]
        refine wpAnyH_take (i := 21) (oi := { dst := some 70, op := Op.move (Operand.tmp 6), type := 4, pos := "outright.go:33", after := #[{ on := 20, ground := Ground.guard }], guard := some (20, false) }) (v := ?_) rfl (by kernel_rfl) (by kernel_rfl) (by kernel_rfl) (fun _ _ _ h => h) (Or.inl ⟨by rfl, ?_⟩) (by assumption) ?_
        rotate_left
        · intro W hSw
          clear hSw
          go_simp
          try with_reducible rfl
        simp only [Act.put, List.setIfInBounds_toArray, List.set_cons_zero, List.set_cons_succ]
        refine wpAnyH_take (i := 22) (oi := { dst := some 71, op := Op.move (Operand.tmp 70), type := 4, pos := "outright.go:33", after := #[{ on := 21, ground := Ground.data }, { on := 20, ground := Ground.chain }, { on := 20, ground := Ground.guard }], guard := some (20, false) }) (v := ?_) rfl (by kernel_rfl) (by kernel_rfl) (by kernel_rfl) (fun _ _ _ h => h) (Or.inl ⟨by rfl, ?_⟩) (by assumption) ?_
        rotate_left
        · intro W hSw
          clear hSw
          go_simp
          try with_reducible rfl
        simp only [Act.put, List.setIfInBounds_toArray, List.set_cons_zero, List.set_cons_succ]
        refine wpAnyH_take (i := 23) (oi := { dst := some 72, op := Op.load 24 (Operand.tmp 4), type := 24, pos := "outright.go:33", after := #[{ on := 22, ground := Ground.guard }], guard := some (22, true) }) (v := ?_) rfl (by kernel_rfl) (by kernel_rfl) (by kernel_rfl) (fun _ _ _ h => h) (Or.inl ⟨by rfl, ?_⟩) (by assumption) ?_
        rotate_left
        · intro W hSw
          have x0 := (HY.out.later hSw).cell 0
          have x1 := (HY.out.later hSw).cell 1
          have x2 := (HY.out.later hSw).cell 2
          have x3 := (HY.out.later hSw).cell 3
          have x4 := (HY.out.later hSw).cell 4
          have x5 := (HY.out.later hSw).cell 5
          have x6 := (HY.out.later hSw).cell 6
          simp only [List.getElem?_toArray, List.getElem?_cons_zero, List.getElem?_cons_succ] at x0 x1 x2 x3 x4 x5 x6
          go_simp
          try with_reducible rfl
        simp only [Act.put, List.setIfInBounds_toArray, List.set_cons_zero, List.set_cons_succ]
        refine wpAnyH_take (i := 24) (oi := { dst := some 73, op := Op.load 24 (Operand.tmp 1), type := 24, pos := "outright.go:33", after := #[{ on := 22, ground := Ground.guard }], guard := some (22, true) }) (v := ?_) rfl (by kernel_rfl) (by kernel_rfl) (by kernel_rfl) (fun _ _ _ h => h) (Or.inl ⟨by rfl, ?_⟩) (by assumption) ?_
        rotate_left
        · intro W hSw
          have x0 := (HBX.out.later hSw).cell 0
          have x1 := (HBX.out.later hSw).cell 1
          have x2 := (HBX.out.later hSw).cell 2
          have x3 := (HBX.out.later hSw).cell 3
          have x4 := (HBX.out.later hSw).cell 4
          have x5 := (HBX.out.later hSw).cell 5
          have x6 := (HBX.out.later hSw).cell 6
          simp only [List.getElem?_toArray, List.getElem?_cons_zero, List.getElem?_cons_succ] at x0 x1 x2 x3 x4 x5 x6
          go_simp
          try with_reducible rfl
        simp only [Act.put, List.setIfInBounds_toArray, List.set_cons_zero, List.set_cons_succ]
        refine wpAnyH_ready (rs := [25]) (by kernel_rfl) (by simp) (AllReadyH.cons (o := { dst := some 74, op := Op.call { callee := Callee.value (Operand.func 14), args := #[Operand.tmp 73], argTypes := #[24] }, type := 24, pos := "outright.go:33", after := #[{ on := 24, ground := Ground.data }, { on := 22, ground := Ground.chain }, { on := 22, ground := Ground.guard }], guard := some (22, true) }) rfl (fun K hK => ?_) AllReadyH.nil)
        have HCL := Lib.hid (HCLN.out _ (HN3.out.gl.later HH.out))
        go_simp
        refine HCL.out.mono ?_
        rintro e Wc ⟨rfl, hb⟩
        replace HH := Lib.hid (stepB HH.out hb)
        clear hb HCL hHeld
        refine hK.out _ _ HH.out (fun hHeld => ?_)
        clear hK K
        refine wpAnyH_take (i := 26) (oi := { dst := some 75, op := Op.binOp BinOp.neq 24 (Operand.tmp 72) (Operand.tmp 74) 24, type := 4, pos := "outright.go:33", after := #[{ on := 23, ground := Ground.data }, { on := 25, ground := Ground.data }, { on := 22, ground := Ground.guard }], guard := some (22, true) }) (v := ?_) rfl (by kernel_rfl) (by kernel_rfl) (by kernel_rfl) (fun _ _ _ h => h) (Or.inl ⟨by rfl, ?_⟩) (by assumption) ?_
        rotate_left
        · intro W hSw
          clear hSw
          have hne := HNQ.out
          go_simp
          try with_reducible rfl
        simp only [Act.put, List.setIfInBounds_toArray, List.set_cons_zero, List.set_cons_succ]
        refine wpAnyH_take (i := 27) (oi := { dst := some 76, op := Op.pick (Operand.tmp 71) (Operand.tmp 75) (Operand.const (Value.bool false)), type := 4, pos := "outright.go:33", after := #[{ on := 22, ground := Ground.data }, { on := 26, ground := Ground.data }, { on := 20, ground := Ground.guard }], guard := some (20, false) }) (v := ?_) rfl (by kernel_rfl) (by kernel_rfl) (by kernel_rfl) (fun _ _ _ h => h) (Or.inl ⟨by rfl, ?_⟩) (by assumption) ?_
        rotate_left
        · intro W hSw
          clear hSw
          go_simp
          try with_reducible rfl
        simp only [Act.put, List.setIfInBounds_toArray, List.set_cons_zero, List.set_cons_succ]
        refine wpAnyH_take (i := 28) (oi := { dst := some 77, op := Op.pick (Operand.tmp 69) (Operand.const (Value.bool true)) (Operand.tmp 76), type := 4, pos := "outright.go:33", after := #[{ on := 20, ground := Ground.data }, { on := 27, ground := Ground.data }], guard := none }) (v := ?_) rfl (by kernel_rfl) (by kernel_rfl) (by kernel_rfl) (fun _ _ _ h => h) (Or.inl ⟨by rfl, ?_⟩) (by assumption) ?_
        rotate_left
        · intro W hSw
          clear hSw
          go_simp
          try with_reducible rfl
        simp only [Act.put, List.setIfInBounds_toArray, List.set_cons_zero, List.set_cons_succ]
        refine wpAnyH_take (i := 29) (oi := { dst := some 78, op := Op.move (Operand.tmp 77), type := 4, pos := "outright.go:33", after := #[{ on := 28, ground := Ground.data }, { on := 25, ground := Ground.chain }], guard := none }) (v := ?_) rfl (by kernel_rfl) (by kernel_rfl) (by kernel_rfl) (fun _ _ _ h => h) (Or.inl ⟨by rfl, ?_⟩) (by assumption) ?_
        rotate_left
        · intro W hSw
          clear hSw
          go_simp
          try with_reducible rfl
        simp only [Act.put, List.setIfInBounds_toArray, List.set_cons_zero, List.set_cons_succ]
        refine wpAnyH_take (i := 30) (oi := { dst := some 79, op := Op.move (Operand.tmp 3), type := 5, pos := "outright.go:33", after := #[{ on := 29, ground := Ground.guard }], guard := some (29, false) }) (v := ?_) rfl (by kernel_rfl) (by kernel_rfl) (by kernel_rfl) (fun _ _ _ h => h) (Or.inl ⟨by rfl, ?_⟩) (by assumption) ?_
        rotate_left
        · intro W hSw
          clear hSw
          go_simp
          try with_reducible rfl
        simp only [Act.put, List.setIfInBounds_toArray, List.set_cons_zero, List.set_cons_succ]
        refine wpAnyH_take (i := 32) (oi := { dst := some 81, op := Op.move (Operand.tmp 3), type := 5, pos := "outright.go:33", after := #[{ on := 29, ground := Ground.guard }], guard := some (29, false) }) (v := ?_) rfl (by kernel_rfl) (by kernel_rfl) (by kernel_rfl) (fun _ _ _ h => h) (Or.inl ⟨by rfl, ?_⟩) (by assumption) ?_
        rotate_left
        · intro W hSw
          clear hSw
          go_simp
          try with_reducible rfl
        simp only [Act.put, List.setIfInBounds_toArray, List.set_cons_zero, List.set_cons_succ]
        refine wpAnyH_take (i := 33) (oi := { dst := some 82, op := Op.binOp BinOp.gtr 5 (Operand.tmp 81) (Operand.const (Value.int IntKind.u8 1)) 5, type := 4, pos := "outright.go:33", after := #[{ on := 32, ground := Ground.data }, { on := 29, ground := Ground.guard }], guard := some (29, false) }) (v := ?_) rfl (by kernel_rfl) (by kernel_rfl) (by kernel_rfl) (fun _ _ _ h => h) (Or.inl ⟨by rfl, ?_⟩) (by assumption) ?_
        rotate_left
        · intro W hSw
          clear hSw
          have q1 := g1
          go_simp
          try with_reducible rfl
        simp only [Act.put, List.setIfInBounds_toArray, List.set_cons_zero, List.set_cons_succ]
        refine wpAnyH_ready (rs := [31]) (by kernel_rfl) (by simp) (AllReadyH.cons (o := { dst := some 80, op := Op.call { callee := Callee.value (Operand.func 15), args := #[Operand.tmp 79], argTypes := #[5] }, type := 4, pos := "outright.go:33", after := #[{ on := 30, ground := Ground.data }, { on := 29, ground := Ground.chain }, { on := 29, ground := Ground.guard }], guard := some (29, false) }) rfl (fun K hK => ?_) AllReadyH.nil)
        have HCL := Lib.hid (HNEE.out _ (HN3.out.gl.later HH.out))
        go_simp
        refine HCL.out.mono ?_
        rintro e Wd ⟨rfl, hb⟩
        replace HH := Lib.hid (stepB HH.out hb)
        clear hb HCL hHeld
        refine hK.out _ _ HH.out (fun hHeld => ?_)
        clear hK K
        refine wpAnyH_take (i := 34) (oi := { dst := some 83, op := Op.move (Operand.tmp 82), type := 4, pos := "outright.go:33", after := #[{ on := 33, ground := Ground.data }, { on := 31, ground := Ground.chain }, { on := 29, ground := Ground.guard }], guard := some (29, false) }) (v := ?_) rfl (by kernel_rfl) (by kernel_rfl) (by kernel_rfl) (fun _ _ _ h => h) (Or.inl ⟨by rfl, ?_⟩) (by assumption) ?_
        rotate_left
        · intro W hSw
          clear hSw
          go_simp
          try with_reducible rfl
        simp only [Act.put, List.setIfInBounds_toArray, List.set_cons_zero, List.set_cons_succ]
        refine wpAnyH_take (i := 35) (oi := { dst := some 84, op := Op.move (Operand.tmp 3), type := 5, pos := "outright.go:33", after := #[{ on := 34, ground := Ground.guard }], guard := some (34, true) }) (v := ?_) rfl (by kernel_rfl) (by kernel_rfl) (by kernel_rfl) (fun _ _ _ h => h) (Or.inl ⟨by rfl, ?_⟩) (by assumption) ?_
        rotate_left
        · intro W hSw
          clear hSw
          go_simp
          try with_reducible rfl
        simp only [Act.put, List.setIfInBounds_toArray, List.set_cons_zero, List.set_cons_succ]
        refine wpAnyH_take (i := 36) (oi := { dst := some 85, op := Op.binOp BinOp.lss 5 (Operand.tmp 84) (Operand.const (Value.int IntKind.u8 8)) 5, type := 4, pos := "outright.go:33", after := #[{ on := 35, ground := Ground.data }, { on := 34, ground := Ground.guard }], guard := some (34, true) }) (v := ?_) rfl (by kernel_rfl) (by kernel_rfl) (by kernel_rfl) (fun _ _ _ h => h) (Or.inl ⟨by rfl, ?_⟩) (by assumption) ?_
        rotate_left
        · intro W hSw
          clear hSw
          have q1 := g2
          go_simp
          try with_reducible rfl
        simp only [Act.put, List.setIfInBounds_toArray, List.set_cons_zero, List.set_cons_succ]
        refine wpAnyH_take (i := 37) (oi := { dst := some 86, op := Op.pick (Operand.tmp 83) (Operand.tmp 85) (Operand.const (Value.bool false)), type := 4, pos := "outright.go:33", after := #[{ on := 34, ground := Ground.data }, { on := 36, ground := Ground.data }, { on := 29, ground := Ground.guard }], guard := some (29, false) }) (v := ?_) rfl (by kernel_rfl) (by kernel_rfl) (by kernel_rfl) (fun _ _ _ h => h) (Or.inl ⟨by rfl, ?_⟩) (by assumption) ?_
        rotate_left
        · intro W hSw
          clear hSw
          go_simp
          try with_reducible rfl
        simp only [Act.put, List.setIfInBounds_toArray, List.set_cons_zero, List.set_cons_succ]
        refine wpAnyH_take (i := 38) (oi := { dst := some 87, op := Op.binOp BinOp.neq 4 (Operand.tmp 80) (Operand.tmp 86) 4, type := 4, pos := "outright.go:33", after := #[{ on := 31, ground := Ground.data }, { on := 37, ground := Ground.data }, { on := 29, ground := Ground.guard }], guard := some (29, false) }) (v := ?_) rfl (by kernel_rfl) (by kernel_rfl) (by kernel_rfl) (fun _ _ _ h => h) (Or.inl ⟨by rfl, ?_⟩) (by assumption) ?_
        rotate_left
        · intro W hSw
          clear hSw
          go_simp
          try with_reducible rfl
        simp only [Act.put, List.setIfInBounds_toArray, List.set_cons_zero, List.set_cons_succ]
        refine wpAnyH_take (i := 39) (oi := { dst := some 88, op := Op.pick (Operand.tmp 78) (Operand.const (Value.bool true)) (Operand.tmp 87), type := 4, pos := "outright.go:33", after := #[{ on := 29, ground := Ground.data }, { on := 38, ground := Ground.data }], guard := none }) (v := ?_) rfl (by kernel_rfl) (by kernel_rfl) (by kernel_rfl) (fun _ _ _ h => h) (Or.inl ⟨by rfl, ?_⟩) (by assumption) ?_
        rotate_left
        · intro W hSw
          clear hSw
          go_simp
          try with_reducible rfl
        simp only [Act.put, List.setIfInBounds_toArray, List.set_cons_zero, List.set_cons_succ]
        refine wpAnyH_take (i := 40) (oi := { dst := some 89, op := Op.move (Operand.tmp 88), type := 4, pos := "outright.go:33", after := #[{ on := 39, ground := Ground.data }, { on := 34, ground := Ground.chain }], guard := none }) (v := ?_) rfl (by kernel_rfl) (by kernel_rfl) (by kernel_rfl) (fun _ _ _ h => h) (Or.inl ⟨by rfl, ?_⟩) (by assumption) ?_
        rotate_left
        · intro W hSw
          clear hSw
          go_simp
          try with_reducible rfl
        simp only [Act.put, List.setIfInBounds_toArray, List.set_cons_zero, List.set_cons_succ]
        refine wpAnyH_take (i := 41) (oi := { dst := some 90, op := Op.load 24 (Operand.tmp 1), type := 24, pos := "outright.go:33", after := #[{ on := 40, ground := Ground.guard }], guard := some (40, false) }) (v := ?_) rfl (by kernel_rfl) (by kernel_rfl) (by kernel_rfl) (fun _ _ _ h => h) (Or.inl ⟨by rfl, ?_⟩) (by assumption) ?_
        rotate_left
        · intro W hSw
          have x0 := (HBX.out.later hSw).cell 0
          have x1 := (HBX.out.later hSw).cell 1
          have x2 := (HBX.out.later hSw).cell 2
          have x3 := (HBX.out.later hSw).cell 3
          have x4 := (HBX.out.later hSw).cell 4
          have x5 := (HBX.out.later hSw).cell 5
          have x6 := (HBX.out.later hSw).cell 6
          simp only [List.getElem?_toArray, List.getElem?_cons_zero, List.getElem?_cons_succ] at x0 x1 x2 x3 x4 x5 x6
          go_simp
          try with_reducible rfl
        simp only [Act.put, List.setIfInBounds_toArray, List.set_cons_zero, List.set_cons_succ]
        refine wpAnyH_take (i := 42) (oi := { dst := some 91, op := Op.load 24 (Operand.tmp 1), type := 24, pos := "outright.go:33", after := #[{ on := 40, ground := Ground.guard }], guard := some (40, false) }) (v := ?_) rfl (by kernel_rfl) (by kernel_rfl) (by kernel_rfl) (fun _ _ _ h => h) (Or.inl ⟨by rfl, ?_⟩) (by assumption) ?_
        rotate_left
        · intro W hSw
          have x0 := (HBX.out.later hSw).cell 0
          have x1 := (HBX.out.later hSw).cell 1
          have x2 := (HBX.out.later hSw).cell 2
          have x3 := (HBX.out.later hSw).cell 3
          have x4 := (HBX.out.later hSw).cell 4
          have x5 := (HBX.out.later hSw).cell 5
          have x6 := (HBX.out.later hSw).cell 6
          simp only [List.getElem?_toArray, List.getElem?_cons_zero, List.getElem?_cons_succ] at x0 x1 x2 x3 x4 x5 x6
          go_simp
          try with_reducible rfl
        simp only [Act.put, List.setIfInBounds_toArray, List.set_cons_zero, List.set_cons_succ]
        refine wpAnyH_ready (rs := [43]) (by kernel_rfl) (by simp) (AllReadyH.cons (o := { dst := some 92, op := Op.call { callee := Callee.value (Operand.func 14), args := #[Operand.tmp 91], argTypes := #[24] }, type := 24, pos := "outright.go:33", after := #[{ on := 42, ground := Ground.data }, { on := 40, ground := Ground.chain }, { on := 40, ground := Ground.guard }], guard := some (40, false) }) rfl (fun K hK => ?_) AllReadyH.nil)
        have HCL := Lib.hid (HCLN.out _ (HN3.out.gl.later HH.out))
        go_simp
        refine HCL.out.mono ?_
        rintro e We ⟨rfl, hb⟩
        replace HH := Lib.hid (stepB HH.out hb)
        clear hb HCL hHeld
        refine hK.out _ _ HH.out (fun hHeld => ?_)
        clear hK K
        refine wpAnyH_ready (rs := [44]) (by kernel_rfl) (by simp) (AllReadyH.cons (o := { dst := some 93, op := Op.call { callee := Callee.value (Operand.func 16), args := #[Operand.tmp 90, Operand.tmp 92], argTypes := #[24, 24] }, type := 4, pos := "outright.go:33", after := #[{ on := 41, ground := Ground.data }, { on := 43, ground := Ground.data }, { on := 43, ground := Ground.chain }, { on := 40, ground := Ground.guard }], guard := some (40, false) }) rfl (fun K hK => ?_) AllReadyH.nil)
        have HCL := Lib.hid (HSAM.out _ (HN3.out.gl.later HH.out))
        go_simp
        refine HCL.out.mono ?_
        rintro e Wf ⟨rfl, hb⟩
        replace HH := Lib.hid (stepB HH.out hb)
        clear hb HCL hHeld
        refine hK.out _ _ HH.out (fun hHeld => ?_)
        clear hK K
        refine wpAnyH_take (i := 45) (oi := { dst := some 94, op := Op.unOp UnOp.not 4 (Operand.tmp 93), type := 4, pos := "outright.go:33", after := #[{ on := 44, ground := Ground.data }, { on := 40, ground := Ground.guard }], guard := some (40, false) }) (v := ?_) rfl (by kernel_rfl) (by kernel_rfl) (by kernel_rfl) (fun _ _ _ h => h) (Or.inl ⟨by rfl, ?_⟩) (by assumption) ?_
        rotate_left
        · intro W hSw
          clear hSw
          go_simp
          try with_reducible rfl
        simp only [Act.put, List.setIfInBounds_toArray, List.set_cons_zero, List.set_cons_succ]
        refine wpAnyH_take (i := 46) (oi := { dst := some 95, op := Op.pick (Operand.tmp 89) (Operand.const (Value.bool true)) (Operand.tmp 94), type := 4, pos := "outright.go:33", after := #[{ on := 40, ground := Ground.data }, { on := 45, ground := Ground.data }], guard := none }) (v := ?_) rfl (by kernel_rfl) (by kernel_rfl) (by kernel_rfl) (fun _ _ _ h => h) (Or.inl ⟨by rfl, ?_⟩) (by assumption) ?_
        rotate_left
        · intro W hSw
          clear hSw
          go_simp
          try with_reducible rfl
        simp only [Act.put, List.setIfInBounds_toArray, List.set_cons_zero, List.set_cons_succ]
        refine wpAnyH_done (by kernel_rfl) (NoPanic.normal ?_) _
        have HF := Lib.hid (HN3.out.later HH.out)
        clear hHeld HH HSHW HMAY HCLN HSAM HNEE HNQ HBX
        go_wp2
        go_roundw
        case rel => exact ⟨k + 1, (k : Int), by omega, by go_num, HF.out⟩
        case measure => simp [intOf]; omega
      · have HKC : Hid (8 ≤ k ∧ k ≤ 9) := Lib.hid (by omega)
        clear hk8
        have m1 : mayK k = true := by have hkc := HKC.out; unfold mayK; simp; omega
        have HPA := parse_any s w6 (by have := HAL.out.2.2.2.2.2.2.2; omega) HN2.out.gl
        rw [parV_eq] at HPA
        rw [show parC s = (kn3, tx3, ke3, en3, va3, li3, eg3) by unfold parC; rw [HAL.out.2.1, m1]; exact HAL.out.2.2.2.1 m1, show parE s = 0 by unfold parE; rw [HAL.out.2.1, m1]; rfl] at HPA
        unfold clV at HPA
        simp only at HPA
        have HPB := Lib.hid HPA
        clear HPA
        go_wp2_with fail
        refine HPB.out.mono ?_
        rintro e w7 ⟨rfl, hb⟩
        have hby : Below w7.heap.size w7 (w7.alloc (.cells #[.int .u8 (kn3 : Int), .int .i64 tx3, .string ke3, .string en3, .string va3, .int .i64 li3, .int .u8 (eg3 : Int)] 24)) := (Below.refl _ _).alloc (Nat.le_refl _) _
        have HY : Hid (Blk (w7.alloc (.cells #[.int .u8 (kn3 : Int), .int .i64 tx3, .string ke3, .string en3, .string va3, .int .i64 li3, .int .u8 (eg3 : Int)] 24)) w7.heap.size #[.int .u8 (kn3 : Int), .int .i64 tx3, .string ke3, .string en3, .string va3, .int .i64 li3, .int .u8 (eg3 : Int)] 24) := Blk.new _ _ _
        have HN3 := Lib.hid ((HN2.out.later hb).later hby)
        clear hb hby HPB t0 HN2
        go_upto_region 10 with (fail)
        generalize w7.alloc (.cells #[.int .u8 (kn3 : Int), .int .i64 tx3, .string ke3, .string en3, .string va3, .int .i64 li3, .int .u8 (eg3 : Int)] 24) = w8 at *
        obtain ⟨py, hpy⟩ : ∃ x, w7.heap.size = x := ⟨_, rfl⟩
        rw [hpy] at HY ⊢
        clear hpy
        have p0 : decide ((0 : Int) < (k : Int)) = true := by have hkc := HKC.out; simp; omega
        have p0' : decide (0 < k) = true := by have hkc := HKC.out; simp; omega
        have p1 : decide ((k : Int) < 10) = true := by have hkc := HKC.out; simp; omega
        have g1 : decide ((1 : Int) < (k : Int)) = true := by have hkc := HKC.out; simp; omega
        have g2 : decide ((k : Int) < 8) = false := by have hkc := HKC.out; simp; omega

        go_upto_region 11 with (fail)
        have HSHW : Hid (∀ V, Gl V → Calls Tryd.prog 12 #[.agg #[.int .u8 (k : Int), .int .i64 (-3), .string { data := #[107] }, .string { data := #[255, 0] }, .string { data := #[118] }, .int .i64 7, .int .u8 2]] V fun e w' => e = .returned (.string s) ∧ Below V.heap.size V w') := Lib.hid (fun V hV => by
          have hm9 : (10 : Nat) ≤ 100000 := by decide
          have h := show_any (allC k) V ⟨by show k ≤ 255; omega, by show (2 : Nat) ≤ 255; decide, by show (-9223372036854775808 : Int) ≤ -3 ∧ (-3 : Int) ≤ 9223372036854775807; omega, by show (-9223372036854775808 : Int) ≤ 7 ∧ (7 : Int) ≤ 9223372036854775807; omega, by show (1 : Nat) ≤ 100000; decide, by show (2 : Nat) ≤ 100000; decide, by show (1 : Nat) ≤ 100000; decide⟩ hV (by have := HAL.out.2.2.2.2.2.2.1; omega)
          rw [HAL.out.1] at h
          exact h)
        have HMAY : Hid (∀ V, Gl V → Calls Tryd.prog 13 #[.agg #[.int .u8 (k : Int), .int .i64 (-3), .string { data := #[107] }, .string { data := #[255, 0] }, .string { data := #[118] }, .int .i64 7, .int .u8 2]] V fun e w' => e = .returned (.int .i64 0) ∧ Below V.heap.size V w') := Lib.hid (fun V hV => by
          have h := may_any (allC k) V (by show k ≤ 255; omega) (by show (2 : Nat) ≤ 255; decide) hV
          rw [HAL.out.2.2.1, m1] at h
          exact h)
        have HCLN : Hid (∀ V, Gl V → Calls Tryd.prog 14 #[.agg #[.int .u8 (k : Int), .int .i64 (-3), .string { data := #[107] }, .string { data := #[255, 0] }, .string { data := #[118] }, .int .i64 7, .int .u8 2]] V fun e w' => e = .returned (.agg #[.int .u8 (kn3 : Int), .int .i64 tx3, .string ke3, .string en3, .string va3, .int .i64 li3, .int .u8 (eg3 : Int)]) ∧ Below V.heap.size V w') := Lib.hid (fun V hV => by
          have h := clean_any k (-3) { data := #[107] } { data := #[255, 0] } { data := #[118] } 7 2 V (by omega) hV
          rw [show clnC (k, -3, { data := #[107] }, { data := #[255, 0] }, { data := #[118] }, 7, 2) = (kn3, tx3, ke3, en3, va3, li3, eg3) from HC3.out] at h
          exact h)
        have HSAM : Hid (∀ V, Gl V → Calls Tryd.prog 16 #[.agg #[.int .u8 (k : Int), .int .i64 (-3), .string { data := #[107] }, .string { data := #[255, 0] }, .string { data := #[118] }, .int .i64 7, .int .u8 2], .agg #[.int .u8 (kn3 : Int), .int .i64 tx3, .string ke3, .string en3, .string va3, .int .i64 li3, .int .u8 (eg3 : Int)]] V fun e w' => e = .returned (.bool true) ∧ Below V.heap.size V w') := Lib.hid (fun V hV => by
          have hk3 : kn3 ≤ 255 := by
            have h1 := congrArg (fun z : Cl => z.1) HC3.out
            have h2 : k = kn3 := h1
            omega
          have h := same_any k (-3) { data := #[107] } { data := #[255, 0] } { data := #[118] } 7 2 kn3 tx3 ke3 en3 va3 li3 eg3 V (by omega) hk3 hV
          rw [show sameC (k, -3, { data := #[107] }, { data := #[255, 0] }, { data := #[118] }, 7, 2) (kn3, tx3, ke3, en3, va3, li3, eg3) = true from HAL.out.2.2.2.2.2.1] at h
          exact h)
        have HNEE : Hid (∀ V, Gl V → Calls Tryd.prog 15 #[.int .u8 (k : Int)] V fun e w' => e = .returned (.bool false) ∧ Below V.heap.size V w') := Lib.hid (fun V hV => by
          have h := needs_any k V (by omega) hV
          rw [HAL.out.2.2.2.2.1, show (decide (2 ≤ k) && decide (k ≤ 7)) = false by have hkc := HKC.out; simp; omega] at h
          exact h)
        have HNQ : Hid (∀ V : World, (binOp .neq 24 (.agg #[.int .u8 (kn3 : Int), .int .i64 tx3, .string ke3, .string en3, .string va3, .int .i64 li3, .int .u8 (eg3 : Int)]) (.agg #[.int .u8 (kn3 : Int), .int .i64 tx3, .string ke3, .string en3, .string va3, .int .i64 li3, .int .u8 (eg3 : Int)])).run Tryd.prog V = .ok (.bool false) V) := Lib.hid (fun V => by
          have h := neq24 (kn3, tx3, ke3, en3, va3, li3, eg3) (kn3, tx3, ke3, en3, va3, li3, eg3) V
          rw [decide_eq_true rfl] at h
          exact h)
        have HRK2 := HRK
        clear m1 d2
        refine wp_region_noPanic ?_
        obtain ⟨W0, rfl⟩ : ∃ W0 : World, W0 = w8 := ⟨_, rfl⟩
        refine wp_region_held_drew (S := fun W => Below W0.heap.size W0 W) (by kernel_rfl) (Below.drew (Below.refl _ _)) (fun hHeld => ?_)
        have HH := Lib.hid hHeld
        have HBX := Lib.hid HN3.out.bx
        refine wpAnyH_take (i := 0) (oi := { dst := some 49, op := Op.load 24 (Operand.tmp 1), type := 24, pos := "outright.go:33", after := #[], guard := none }) (v := ?_) rfl (by kernel_rfl) (by kernel_rfl) (by kernel_rfl) (fun _ _ _ h => h) (Or.inl ⟨by rfl, ?_⟩) (by assumption) ?_
        rotate_left
        · intro W hSw
          have x0 := (HBX.out.later hSw).cell 0
          have x1 := (HBX.out.later hSw).cell 1
          have x2 := (HBX.out.later hSw).cell 2
          have x3 := (HBX.out.later hSw).cell 3
          have x4 := (HBX.out.later hSw).cell 4
          have x5 := (HBX.out.later hSw).cell 5
          have x6 := (HBX.out.later hSw).cell 6
          simp only [List.getElem?_toArray, List.getElem?_cons_zero, List.getElem?_cons_succ] at x0 x1 x2 x3 x4 x5 x6
          go_simp
          try with_reducible rfl
        simp only [Act.put, List.setIfInBounds_toArray, List.set_cons_zero, List.set_cons_succ]
        refine wpAnyH_take (i := 2) (oi := { dst := some 51, op := Op.move (Operand.tmp 2), type := 25, pos := "outright.go:33", after := #[], guard := none }) (v := ?_) rfl (by kernel_rfl) (by kernel_rfl) (by kernel_rfl) (fun _ _ _ h => h) (Or.inl ⟨by rfl, ?_⟩) (by assumption) ?_
        rotate_left
        · intro W hSw
          clear hSw
          go_simp
          try with_reducible rfl
        simp only [Act.put, List.setIfInBounds_toArray, List.set_cons_zero, List.set_cons_succ]
        refine wpAnyH_take (i := 3) (oi := { dst := some 52, op := Op.move (Operand.tmp 3), type := 5, pos := "outright.go:33", after := #[], guard := none }) (v := ?_) rfl (by kernel_rfl) (by kernel_rfl) (by kernel_rfl) (fun _ _ _ h => h) (Or.inl ⟨by rfl, ?_⟩) (by assumption) ?_
        rotate_left
        · intro W hSw
          clear hSw
          go_simp
          try with_reducible rfl
        simp only [Act.put, List.setIfInBounds_toArray, List.set_cons_zero, List.set_cons_succ]
        refine wpAnyH_take (i := 4) (oi := { dst := some 53, op := Op.indexAddr 25 (Operand.tmp 51) (Operand.tmp 52), type := 0, pos := "outright.go:33", after := #[{ on := 2, ground := Ground.data }, { on := 3, ground := Ground.data }], guard := none }) (v := ?_) rfl (by kernel_rfl) (by kernel_rfl) (by kernel_rfl) (fun _ _ _ h => h) (Or.inl ⟨by rfl, ?_⟩) (by assumption) ?_
        rotate_left
        · intro W hSw
          clear hSw
          have i2 := i1
          go_simp
          try with_reducible rfl
        simp only [Act.put, List.setIfInBounds_toArray, List.set_cons_zero, List.set_cons_succ]
        refine wpAnyH_take (i := 5) (oi := { dst := some 54, op := Op.load 9 (Operand.tmp 53), type := 9, pos := "outright.go:33", after := #[{ on := 4, ground := Ground.data }], guard := none }) (v := ?_) rfl (by kernel_rfl) (by kernel_rfl) (by kernel_rfl) (fun _ _ _ h => h) (Or.inl ⟨by rfl, ?_⟩) (by assumption) ?_
        rotate_left
        · intro W hSw
          have t0 := sl_at (HN3.out.tx.later hSw) HRK2.out
          go_simp
          try with_reducible rfl
        simp only [Act.put, List.setIfInBounds_toArray, List.set_cons_zero, List.set_cons_succ]
        refine wpAnyH_ready (rs := [1]) (by kernel_rfl) (by simp) (AllReadyH.cons (o := { dst := some 50, op := Op.call { callee := Callee.value (Operand.func 12), args := #[Operand.tmp 49], argTypes := #[24] }, type := 9, pos := "outright.go:33", after := #[{ on := 0, ground := Ground.data }], guard := none }) rfl (fun K hK => ?_) AllReadyH.nil)
        have HCL := Lib.hid (HSHW.out _ (HN3.out.gl.later HH.out))
        go_simp
        refine HCL.out.mono ?_
        rintro e Wa ⟨rfl, hb⟩
        replace HH := Lib.hid (stepB HH.out hb)
        clear hb HCL hHeld
        refine hK.out _ _ HH.out (fun hHeld => ?_)
        clear hK K
        refine wpAnyH_take (i := 6) (oi := { dst := some 55, op := Op.binOp BinOp.neq 9 (Operand.tmp 50) (Operand.tmp 54) 9, type := 4, pos := "outright.go:33", after := #[{ on := 1, ground := Ground.data }, { on := 5, ground := Ground.data }], guard := none }) (v := ?_) rfl (by kernel_rfl) (by kernel_rfl) (by kernel_rfl) (fun _ _ _ h => h) (Or.inl ⟨by rfl, ?_⟩) (by assumption) ?_
        rotate_left
        · intro W hSw
          clear hSw
          go_simp
          try with_reducible rfl
        simp only [Act.put, List.setIfInBounds_toArray, List.set_cons_zero, List.set_cons_succ]
        refine wpAnyH_take (i := 7) (oi := { dst := some 56, op := Op.move (Operand.tmp 55), type := 4, pos := "outright.go:33", after := #[{ on := 6, ground := Ground.data }, { on := 1, ground := Ground.chain }], guard := none }) (v := ?_) rfl (by kernel_rfl) (by kernel_rfl) (by kernel_rfl) (fun _ _ _ h => h) (Or.inl ⟨by rfl, ?_⟩) (by assumption) ?_
        rotate_left
        · intro W hSw
          clear hSw
          go_simp
          try with_reducible rfl
        simp only [Act.put, List.setIfInBounds_toArray, List.set_cons_zero, List.set_cons_succ]
        refine wpAnyH_take (i := 8) (oi := { dst := some 57, op := Op.load 24 (Operand.tmp 1), type := 24, pos := "outright.go:33", after := #[{ on := 7, ground := Ground.guard }], guard := some (7, false) }) (v := ?_) rfl (by kernel_rfl) (by kernel_rfl) (by kernel_rfl) (fun _ _ _ h => h) (Or.inl ⟨by rfl, ?_⟩) (by assumption) ?_
        rotate_left
        · intro W hSw
          have x0 := (HBX.out.later hSw).cell 0
          have x1 := (HBX.out.later hSw).cell 1
          have x2 := (HBX.out.later hSw).cell 2
          have x3 := (HBX.out.later hSw).cell 3
          have x4 := (HBX.out.later hSw).cell 4
          have x5 := (HBX.out.later hSw).cell 5
          have x6 := (HBX.out.later hSw).cell 6
          simp only [List.getElem?_toArray, List.getElem?_cons_zero, List.getElem?_cons_succ] at x0 x1 x2 x3 x4 x5 x6
          go_simp
          try with_reducible rfl
        simp only [Act.put, List.setIfInBounds_toArray, List.set_cons_zero, List.set_cons_succ]
        refine wpAnyH_take (i := 11) (oi := { dst := some 60, op := Op.move (Operand.tmp 6), type := 4, pos := "outright.go:33", after := #[{ on := 7, ground := Ground.guard }], guard := some (7, false) }) (v := ?_) rfl (by kernel_rfl) (by kernel_rfl) (by kernel_rfl) (fun _ _ _ h => h) (Or.inl ⟨by rfl, ?_⟩) (by assumption) ?_
        rotate_left
        · intro W hSw
          clear hSw
          go_simp
          try with_reducible rfl
        simp only [Act.put, List.setIfInBounds_toArray, List.set_cons_zero, List.set_cons_succ]
        refine wpAnyH_ready (rs := [9]) (by kernel_rfl) (by simp) (AllReadyH.cons (o := { dst := some 58, op := Op.call { callee := Callee.value (Operand.func 13), args := #[Operand.tmp 57], argTypes := #[24] }, type := 26, pos := "outright.go:33", after := #[{ on := 8, ground := Ground.data }, { on := 7, ground := Ground.chain }, { on := 7, ground := Ground.guard }], guard := some (7, false) }) rfl (fun K hK => ?_) AllReadyH.nil)
        have HCL := Lib.hid (HMAY.out _ (HN3.out.gl.later HH.out))
        go_simp
        refine HCL.out.mono ?_
        rintro e Wb ⟨rfl, hb⟩
        replace HH := Lib.hid (stepB HH.out hb)
        clear hb HCL hHeld
        refine hK.out _ _ HH.out (fun hHeld => ?_)
        clear hK K
        refine wpAnyH_take (i := 10) (oi := { dst := some 59, op := Op.binOp BinOp.eql 26 (Operand.tmp 58) (Operand.const (Value.int IntKind.i64 0)) 26, type := 4, pos := "outright.go:33", after := #[{ on := 9, ground := Ground.data }, { on := 7, ground := Ground.guard }], guard := some (7, false) }) (v := ?_) rfl (by kernel_rfl) (by kernel_rfl) (by kernel_rfl) (fun _ _ _ h => h) (Or.inl ⟨by rfl, ?_⟩) (by assumption) ?_
        rotate_left
        · intro W hSw
          clear hSw
          go_simp
          try with_reducible rfl
        simp only [Act.put, List.setIfInBounds_toArray, List.set_cons_zero, List.set_cons_succ]
        refine wpAnyH_take (i := 12) (oi := { dst := some 61, op := Op.binOp BinOp.neq 4 (Operand.tmp 59) (Operand.tmp 60) 4, type := 4, pos := "outright.go:33", after := #[{ on := 10, ground := Ground.data }, { on := 11, ground := Ground.data }, { on := 7, ground := Ground.guard }], guard := some (7, false) }) (v := ?_) rfl (by kernel_rfl) (by kernel_rfl) (by kernel_rfl) (fun _ _ _ h => h) (Or.inl ⟨by rfl, ?_⟩) (by assumption) ?_
        rotate_left
        · intro W hSw
          clear hSw
          go_simp
          try with_reducible rfl
        simp only [Act.put, List.setIfInBounds_toArray, List.set_cons_zero, List.set_cons_succ]
        refine wpAnyH_take (i := 13) (oi := { dst := some 62, op := Op.pick (Operand.tmp 56) (Operand.const (Value.bool true)) (Operand.tmp 61), type := 4, pos := "outright.go:33", after := #[{ on := 7, ground := Ground.data }, { on := 12, ground := Ground.data }], guard := none }) (v := ?_) rfl (by kernel_rfl) (by kernel_rfl) (by kernel_rfl) (fun _ _ _ h => h) (Or.inl ⟨by rfl, ?_⟩) (by assumption) ?_
        rotate_left
        · intro W hSw
          clear hSw
          go_simp
          try with_reducible rfl
        simp only [Act.put, List.setIfInBounds_toArray, List.set_cons_zero, List.set_cons_succ]
        refine wpAnyH_take (i := 14) (oi := { dst := some 63, op := Op.move (Operand.tmp 62), type := 4, pos := "outright.go:33", after := #[{ on := 13, ground := Ground.data }, { on := 9, ground := Ground.chain }], guard := none }) (v := ?_) rfl (by kernel_rfl) (by kernel_rfl) (by kernel_rfl) (fun _ _ _ h => h) (Or.inl ⟨by rfl, ?_⟩) (by assumption) ?_
        rotate_left
        · intro W hSw
          clear hSw
          go_simp
          try with_reducible rfl
        simp only [Act.put, List.setIfInBounds_toArray, List.set_cons_zero, List.set_cons_succ]
        refine wpAnyH_take (i := 15) (oi := { dst := some 64, op := Op.move (Operand.tmp 5), type := 26, pos := "outright.go:33", after := #[{ on := 14, ground := Ground.guard }], guard := some (14, false) }) (v := ?_) rfl (by kernel_rfl) (by kernel_rfl) (by kernel_rfl) (fun _ _ _ h => h) (Or.inl ⟨by rfl, ?_⟩) (by assumption) ?_
        rotate_left
        · intro W hSw
          clear hSw
          go_simp
          try with_reducible rfl
        simp only [Act.put, List.setIfInBounds_toArray, List.set_cons_zero, List.set_cons_succ]
        refine wpAnyH_take (i := 16) (oi := { dst := some 65, op := Op.binOp BinOp.eql 26 (Operand.tmp 64) (Operand.const (Value.int IntKind.i64 0)) 26, type := 4, pos := "outright.go:33", after := #[{ on := 15, ground := Ground.data }, { on := 14, ground := Ground.guard }], guard := some (14, false) }) (v := ?_) rfl (by kernel_rfl) (by kernel_rfl) (by kernel_rfl) (fun _ _ _ h => h) (Or.inl ⟨by rfl, ?_⟩) (by assumption) ?_
        rotate_left
        · intro W hSw
          clear hSw
          go_simp
          try with_reducible rfl
        simp only [Act.put, List.setIfInBounds_toArray, List.set_cons_zero, List.set_cons_succ]
        refine wpAnyH_take (i := 17) (oi := { dst := some 66, op := Op.move (Operand.tmp 6), type := 4, pos := "outright.go:33", after := #[{ on := 14, ground := Ground.guard }], guard := some (14, false) }) (v := ?_) rfl (by kernel_rfl) (by kernel_rfl) (by kernel_rfl) (fun _ _ _ h => h) (Or.inl ⟨by rfl, ?_⟩) (by assumption) ?_
        rotate_left
        · intro W hSw
          clear hSw
          go_simp
          try with_reducible rfl
        simp only [Act.put, List.setIfInBounds_toArray, List.set_cons_zero, List.set_cons_succ]
        refine wpAnyH_take (i := 18) (oi := { dst := some 67, op := Op.binOp BinOp.neq 4 (Operand.tmp 65) (Operand.tmp 66) 4, type := 4, pos := "outright.go:33", after := #[{ on := 16, ground := Ground.data }, { on := 17, ground := Ground.data }, { on := 14, ground := Ground.guard }], guard := some (14, false) }) (v := ?_) rfl (by kernel_rfl) (by kernel_rfl) (by kernel_rfl) (fun _ _ _ h => h) (Or.inl ⟨by rfl, ?_⟩) (by assumption) ?_
        rotate_left
        · intro W hSw
          clear hSw
          go_simp
          try with_reducible rfl
        simp only [Act.put, List.setIfInBounds_toArray, List.set_cons_zero, List.set_cons_succ]
        refine wpAnyH_take (i := 19) (oi := { dst := some 68, op := Op.pick (Operand.tmp 63) (Operand.const (Value.bool true)) (Operand.tmp 67), type := 4, pos := "outright.go:33", after := #[{ on := 14, ground := Ground.data }, { on := 18, ground := Ground.data }], guard := none }) (v := ?_) rfl (by kernel_rfl) (by kernel_rfl) (by kernel_rfl) (fun _ _ _ h => h) (Or.inl ⟨by rfl, ?_⟩) (by assumption) ?_
        rotate_left
        · intro W hSw
          clear hSw
          go_simp
          try with_reducible rfl
        simp only [Act.put, List.setIfInBounds_toArray, List.set_cons_zero, List.set_cons_succ]
        refine wpAnyH_take (i := 20) (oi := { dst := some 69, op := Op.move (Operand.tmp 68), type := 4, pos := "outright.go:33", after := #[{ on := 19, ground := Ground.data }, { on := 14, ground := Ground.chain }], guard := none }) (v := ?_) rfl (by kernel_rfl) (by kernel_rfl) (by kernel_rfl) (fun _ _ _ h => h) (Or.inl ⟨by rfl, ?_⟩) (by assumption) ?_
        rotate_left
        · intro W hSw
          clear hSw
          go_simp
          try with_reducible rfl
        simp only [Act.put, List.setIfInBounds_toArray, List.set_cons_zero, List.set_cons_succ]
        refine wpAnyH_take (i := 21) (oi := { dst := some 70, op := Op.move (Operand.tmp 6), type := 4, pos := "outright.go:33", after := #[{ on := 20, ground := Ground.guard }], guard := some (20, false) }) (v := ?_) rfl (by kernel_rfl) (by kernel_rfl) (by kernel_rfl) (fun _ _ _ h => h) (Or.inl ⟨by rfl, ?_⟩) (by assumption) ?_
        rotate_left
        · intro W hSw
          clear hSw
          go_simp
          try with_reducible rfl
        simp only [Act.put, List.setIfInBounds_toArray, List.set_cons_zero, List.set_cons_succ]
        refine wpAnyH_take (i := 22) (oi := { dst := some 71, op := Op.move (Operand.tmp 70), type := 4, pos := "outright.go:33", after := #[{ on := 21, ground := Ground.data }, { on := 20, ground := Ground.chain }, { on := 20, ground := Ground.guard }], guard := some (20, false) }) (v := ?_) rfl (by kernel_rfl) (by kernel_rfl) (by kernel_rfl) (fun _ _ _ h => h) (Or.inl ⟨by rfl, ?_⟩) (by assumption) ?_
        rotate_left
        · intro W hSw
          clear hSw
          go_simp
          try with_reducible rfl
        simp only [Act.put, List.setIfInBounds_toArray, List.set_cons_zero, List.set_cons_succ]
        refine wpAnyH_take (i := 23) (oi := { dst := some 72, op := Op.load 24 (Operand.tmp 4), type := 24, pos := "outright.go:33", after := #[{ on := 22, ground := Ground.guard }], guard := some (22, true) }) (v := ?_) rfl (by kernel_rfl) (by kernel_rfl) (by kernel_rfl) (fun _ _ _ h => h) (Or.inl ⟨by rfl, ?_⟩) (by assumption) ?_
        rotate_left
        · intro W hSw
          have x0 := (HY.out.later hSw).cell 0
          have x1 := (HY.out.later hSw).cell 1
          have x2 := (HY.out.later hSw).cell 2
          have x3 := (HY.out.later hSw).cell 3
          have x4 := (HY.out.later hSw).cell 4
          have x5 := (HY.out.later hSw).cell 5
          have x6 := (HY.out.later hSw).cell 6
          simp only [List.getElem?_toArray, List.getElem?_cons_zero, List.getElem?_cons_succ] at x0 x1 x2 x3 x4 x5 x6
          go_simp
          try with_reducible rfl
        simp only [Act.put, List.setIfInBounds_toArray, List.set_cons_zero, List.set_cons_succ]
        refine wpAnyH_take (i := 24) (oi := { dst := some 73, op := Op.load 24 (Operand.tmp 1), type := 24, pos := "outright.go:33", after := #[{ on := 22, ground := Ground.guard }], guard := some (22, true) }) (v := ?_) rfl (by kernel_rfl) (by kernel_rfl) (by kernel_rfl) (fun _ _ _ h => h) (Or.inl ⟨by rfl, ?_⟩) (by assumption) ?_
        rotate_left
        · intro W hSw
          have x0 := (HBX.out.later hSw).cell 0
          have x1 := (HBX.out.later hSw).cell 1
          have x2 := (HBX.out.later hSw).cell 2
          have x3 := (HBX.out.later hSw).cell 3
          have x4 := (HBX.out.later hSw).cell 4
          have x5 := (HBX.out.later hSw).cell 5
          have x6 := (HBX.out.later hSw).cell 6
          simp only [List.getElem?_toArray, List.getElem?_cons_zero, List.getElem?_cons_succ] at x0 x1 x2 x3 x4 x5 x6
          go_simp
          try with_reducible rfl
        simp only [Act.put, List.setIfInBounds_toArray, List.set_cons_zero, List.set_cons_succ]
        refine wpAnyH_ready (rs := [25]) (by kernel_rfl) (by simp) (AllReadyH.cons (o := { dst := some 74, op := Op.call { callee := Callee.value (Operand.func 14), args := #[Operand.tmp 73], argTypes := #[24] }, type := 24, pos := "outright.go:33", after := #[{ on := 24, ground := Ground.data }, { on := 22, ground := Ground.chain }, { on := 22, ground := Ground.guard }], guard := some (22, true) }) rfl (fun K hK => ?_) AllReadyH.nil)
        have HCL := Lib.hid (HCLN.out _ (HN3.out.gl.later HH.out))
        go_simp
        refine HCL.out.mono ?_
        rintro e Wc ⟨rfl, hb⟩
        replace HH := Lib.hid (stepB HH.out hb)
        clear hb HCL hHeld
        refine hK.out _ _ HH.out (fun hHeld => ?_)
        clear hK K
        refine wpAnyH_take (i := 26) (oi := { dst := some 75, op := Op.binOp BinOp.neq 24 (Operand.tmp 72) (Operand.tmp 74) 24, type := 4, pos := "outright.go:33", after := #[{ on := 23, ground := Ground.data }, { on := 25, ground := Ground.data }, { on := 22, ground := Ground.guard }], guard := some (22, true) }) (v := ?_) rfl (by kernel_rfl) (by kernel_rfl) (by kernel_rfl) (fun _ _ _ h => h) (Or.inl ⟨by rfl, ?_⟩) (by assumption) ?_
        rotate_left
        · intro W hSw
          clear hSw
          have hne := HNQ.out
          go_simp
          try with_reducible rfl
        simp only [Act.put, List.setIfInBounds_toArray, List.set_cons_zero, List.set_cons_succ]
        refine wpAnyH_take (i := 27) (oi := { dst := some 76, op := Op.pick (Operand.tmp 71) (Operand.tmp 75) (Operand.const (Value.bool false)), type := 4, pos := "outright.go:33", after := #[{ on := 22, ground := Ground.data }, { on := 26, ground := Ground.data }, { on := 20, ground := Ground.guard }], guard := some (20, false) }) (v := ?_) rfl (by kernel_rfl) (by kernel_rfl) (by kernel_rfl) (fun _ _ _ h => h) (Or.inl ⟨by rfl, ?_⟩) (by assumption) ?_
        rotate_left
        · intro W hSw
          clear hSw
          go_simp
          try with_reducible rfl
        simp only [Act.put, List.setIfInBounds_toArray, List.set_cons_zero, List.set_cons_succ]
        refine wpAnyH_take (i := 28) (oi := { dst := some 77, op := Op.pick (Operand.tmp 69) (Operand.const (Value.bool true)) (Operand.tmp 76), type := 4, pos := "outright.go:33", after := #[{ on := 20, ground := Ground.data }, { on := 27, ground := Ground.data }], guard := none }) (v := ?_) rfl (by kernel_rfl) (by kernel_rfl) (by kernel_rfl) (fun _ _ _ h => h) (Or.inl ⟨by rfl, ?_⟩) (by assumption) ?_
        rotate_left
        · intro W hSw
          clear hSw
          go_simp
          try with_reducible rfl
        simp only [Act.put, List.setIfInBounds_toArray, List.set_cons_zero, List.set_cons_succ]
        refine wpAnyH_take (i := 29) (oi := { dst := some 78, op := Op.move (Operand.tmp 77), type := 4, pos := "outright.go:33", after := #[{ on := 28, ground := Ground.data }, { on := 25, ground := Ground.chain }], guard := none }) (v := ?_) rfl (by kernel_rfl) (by kernel_rfl) (by kernel_rfl) (fun _ _ _ h => h) (Or.inl ⟨by rfl, ?_⟩) (by assumption) ?_
        rotate_left
        · intro W hSw
          clear hSw
          go_simp
          try with_reducible rfl
        simp only [Act.put, List.setIfInBounds_toArray, List.set_cons_zero, List.set_cons_succ]
        refine wpAnyH_take (i := 30) (oi := { dst := some 79, op := Op.move (Operand.tmp 3), type := 5, pos := "outright.go:33", after := #[{ on := 29, ground := Ground.guard }], guard := some (29, false) }) (v := ?_) rfl (by kernel_rfl) (by kernel_rfl) (by kernel_rfl) (fun _ _ _ h => h) (Or.inl ⟨by rfl, ?_⟩) (by assumption) ?_
        rotate_left
        · intro W hSw
          clear hSw
          go_simp
          try with_reducible rfl
        simp only [Act.put, List.setIfInBounds_toArray, List.set_cons_zero, List.set_cons_succ]
        refine wpAnyH_take (i := 32) (oi := { dst := some 81, op := Op.move (Operand.tmp 3), type := 5, pos := "outright.go:33", after := #[{ on := 29, ground := Ground.guard }], guard := some (29, false) }) (v := ?_) rfl (by kernel_rfl) (by kernel_rfl) (by kernel_rfl) (fun _ _ _ h => h) (Or.inl ⟨by rfl, ?_⟩) (by assumption) ?_
        rotate_left
        · intro W hSw
          clear hSw
          go_simp
          try with_reducible rfl
        simp only [Act.put, List.setIfInBounds_toArray, List.set_cons_zero, List.set_cons_succ]
        refine wpAnyH_take (i := 33) (oi := { dst := some 82, op := Op.binOp BinOp.gtr 5 (Operand.tmp 81) (Operand.const (Value.int IntKind.u8 1)) 5, type := 4, pos := "outright.go:33", after := #[{ on := 32, ground := Ground.data }, { on := 29, ground := Ground.guard }], guard := some (29, false) }) (v := ?_) rfl (by kernel_rfl) (by kernel_rfl) (by kernel_rfl) (fun _ _ _ h => h) (Or.inl ⟨by rfl, ?_⟩) (by assumption) ?_
        rotate_left
        · intro W hSw
          clear hSw
          have q1 := g1
          go_simp
          try with_reducible rfl
        simp only [Act.put, List.setIfInBounds_toArray, List.set_cons_zero, List.set_cons_succ]
        refine wpAnyH_ready (rs := [31]) (by kernel_rfl) (by simp) (AllReadyH.cons (o := { dst := some 80, op := Op.call { callee := Callee.value (Operand.func 15), args := #[Operand.tmp 79], argTypes := #[5] }, type := 4, pos := "outright.go:33", after := #[{ on := 30, ground := Ground.data }, { on := 29, ground := Ground.chain }, { on := 29, ground := Ground.guard }], guard := some (29, false) }) rfl (fun K hK => ?_) AllReadyH.nil)
        have HCL := Lib.hid (HNEE.out _ (HN3.out.gl.later HH.out))
        go_simp
        refine HCL.out.mono ?_
        rintro e Wd ⟨rfl, hb⟩
        replace HH := Lib.hid (stepB HH.out hb)
        clear hb HCL hHeld
        refine hK.out _ _ HH.out (fun hHeld => ?_)
        clear hK K
        refine wpAnyH_take (i := 34) (oi := { dst := some 83, op := Op.move (Operand.tmp 82), type := 4, pos := "outright.go:33", after := #[{ on := 33, ground := Ground.data }, { on := 31, ground := Ground.chain }, { on := 29, ground := Ground.guard }], guard := some (29, false) }) (v := ?_) rfl (by kernel_rfl) (by kernel_rfl) (by kernel_rfl) (fun _ _ _ h => h) (Or.inl ⟨by rfl, ?_⟩) (by assumption) ?_
        rotate_left
        · intro W hSw
          clear hSw
          go_simp
          try with_reducible rfl
        simp only [Act.put, List.setIfInBounds_toArray, List.set_cons_zero, List.set_cons_succ]
        refine wpAnyH_take (i := 35) (oi := { dst := some 84, op := Op.move (Operand.tmp 3), type := 5, pos := "outright.go:33", after := #[{ on := 34, ground := Ground.guard }], guard := some (34, true) }) (v := ?_) rfl (by kernel_rfl) (by kernel_rfl) (by kernel_rfl) (fun _ _ _ h => h) (Or.inl ⟨by rfl, ?_⟩) (by assumption) ?_
        rotate_left
        · intro W hSw
          clear hSw
          go_simp
          try with_reducible rfl
        simp only [Act.put, List.setIfInBounds_toArray, List.set_cons_zero, List.set_cons_succ]
        refine wpAnyH_take (i := 36) (oi := { dst := some 85, op := Op.binOp BinOp.lss 5 (Operand.tmp 84) (Operand.const (Value.int IntKind.u8 8)) 5, type := 4, pos := "outright.go:33", after := #[{ on := 35, ground := Ground.data }, { on := 34, ground := Ground.guard }], guard := some (34, true) }) (v := ?_) rfl (by kernel_rfl) (by kernel_rfl) (by kernel_rfl) (fun _ _ _ h => h) (Or.inl ⟨by rfl, ?_⟩) (by assumption) ?_
        rotate_left
        · intro W hSw
          clear hSw
          have q1 := g2
          go_simp
          try with_reducible rfl
        simp only [Act.put, List.setIfInBounds_toArray, List.set_cons_zero, List.set_cons_succ]
        refine wpAnyH_take (i := 37) (oi := { dst := some 86, op := Op.pick (Operand.tmp 83) (Operand.tmp 85) (Operand.const (Value.bool false)), type := 4, pos := "outright.go:33", after := #[{ on := 34, ground := Ground.data }, { on := 36, ground := Ground.data }, { on := 29, ground := Ground.guard }], guard := some (29, false) }) (v := ?_) rfl (by kernel_rfl) (by kernel_rfl) (by kernel_rfl) (fun _ _ _ h => h) (Or.inl ⟨by rfl, ?_⟩) (by assumption) ?_
        rotate_left
        · intro W hSw
          clear hSw
          go_simp
          try with_reducible rfl
        simp only [Act.put, List.setIfInBounds_toArray, List.set_cons_zero, List.set_cons_succ]
        refine wpAnyH_take (i := 38) (oi := { dst := some 87, op := Op.binOp BinOp.neq 4 (Operand.tmp 80) (Operand.tmp 86) 4, type := 4, pos := "outright.go:33", after := #[{ on := 31, ground := Ground.data }, { on := 37, ground := Ground.data }, { on := 29, ground := Ground.guard }], guard := some (29, false) }) (v := ?_) rfl (by kernel_rfl) (by kernel_rfl) (by kernel_rfl) (fun _ _ _ h => h) (Or.inl ⟨by rfl, ?_⟩) (by assumption) ?_
        rotate_left
        · intro W hSw
          clear hSw
          go_simp
          try with_reducible rfl
        simp only [Act.put, List.setIfInBounds_toArray, List.set_cons_zero, List.set_cons_succ]
        refine wpAnyH_take (i := 39) (oi := { dst := some 88, op := Op.pick (Operand.tmp 78) (Operand.const (Value.bool true)) (Operand.tmp 87), type := 4, pos := "outright.go:33", after := #[{ on := 29, ground := Ground.data }, { on := 38, ground := Ground.data }], guard := none }) (v := ?_) rfl (by kernel_rfl) (by kernel_rfl) (by kernel_rfl) (fun _ _ _ h => h) (Or.inl ⟨by rfl, ?_⟩) (by assumption) ?_
        rotate_left
        · intro W hSw
          clear hSw
          go_simp
          try with_reducible rfl
        simp only [Act.put, List.setIfInBounds_toArray, List.set_cons_zero, List.set_cons_succ]
        refine wpAnyH_take (i := 40) (oi := { dst := some 89, op := Op.move (Operand.tmp 88), type := 4, pos := "outright.go:33", after := #[{ on := 39, ground := Ground.data }, { on := 34, ground := Ground.chain }], guard := none }) (v := ?_) rfl (by kernel_rfl) (by kernel_rfl) (by kernel_rfl) (fun _ _ _ h => h) (Or.inl ⟨by rfl, ?_⟩) (by assumption) ?_
        rotate_left
        · intro W hSw
          clear hSw
          go_simp
          try with_reducible rfl
        simp only [Act.put, List.setIfInBounds_toArray, List.set_cons_zero, List.set_cons_succ]
        refine wpAnyH_take (i := 41) (oi := { dst := some 90, op := Op.load 24 (Operand.tmp 1), type := 24, pos := "outright.go:33", after := #[{ on := 40, ground := Ground.guard }], guard := some (40, false) }) (v := ?_) rfl (by kernel_rfl) (by kernel_rfl) (by kernel_rfl) (fun _ _ _ h => h) (Or.inl ⟨by rfl, ?_⟩) (by assumption) ?_
        rotate_left
        · intro W hSw
          have x0 := (HBX.out.later hSw).cell 0
          have x1 := (HBX.out.later hSw).cell 1
          have x2 := (HBX.out.later hSw).cell 2
          have x3 := (HBX.out.later hSw).cell 3
          have x4 := (HBX.out.later hSw).cell 4
          have x5 := (HBX.out.later hSw).cell 5
          have x6 := (HBX.out.later hSw).cell 6
          simp only [List.getElem?_toArray, List.getElem?_cons_zero, List.getElem?_cons_succ] at x0 x1 x2 x3 x4 x5 x6
          go_simp
          try with_reducible rfl
        simp only [Act.put, List.setIfInBounds_toArray, List.set_cons_zero, List.set_cons_succ]
        refine wpAnyH_take (i := 42) (oi := { dst := some 91, op := Op.load 24 (Operand.tmp 1), type := 24, pos := "outright.go:33", after := #[{ on := 40, ground := Ground.guard }], guard := some (40, false) }) (v := ?_) rfl (by kernel_rfl) (by kernel_rfl) (by kernel_rfl) (fun _ _ _ h => h) (Or.inl ⟨by rfl, ?_⟩) (by assumption) ?_
        rotate_left
        · intro W hSw
          have x0 := (HBX.out.later hSw).cell 0
          have x1 := (HBX.out.later hSw).cell 1
          have x2 := (HBX.out.later hSw).cell 2
          have x3 := (HBX.out.later hSw).cell 3
          have x4 := (HBX.out.later hSw).cell 4
          have x5 := (HBX.out.later hSw).cell 5
          have x6 := (HBX.out.later hSw).cell 6
          simp only [List.getElem?_toArray, List.getElem?_cons_zero, List.getElem?_cons_succ] at x0 x1 x2 x3 x4 x5 x6
          go_simp
          try with_reducible rfl
        simp only [Act.put, List.setIfInBounds_toArray, List.set_cons_zero, List.set_cons_succ]
        refine wpAnyH_ready (rs := [43]) (by kernel_rfl) (by simp) (AllReadyH.cons (o := { dst := some 92, op := Op.call { callee := Callee.value (Operand.func 14), args := #[Operand.tmp 91], argTypes := #[24] }, type := 24, pos := "outright.go:33", after := #[{ on := 42, ground := Ground.data }, { on := 40, ground := Ground.chain }, { on := 40, ground := Ground.guard }], guard := some (40, false) }) rfl (fun K hK => ?_) AllReadyH.nil)
        have HCL := Lib.hid (HCLN.out _ (HN3.out.gl.later HH.out))
        go_simp
        refine HCL.out.mono ?_
        rintro e We ⟨rfl, hb⟩
        replace HH := Lib.hid (stepB HH.out hb)
        clear hb HCL hHeld
        refine hK.out _ _ HH.out (fun hHeld => ?_)
        clear hK K
        refine wpAnyH_ready (rs := [44]) (by kernel_rfl) (by simp) (AllReadyH.cons (o := { dst := some 93, op := Op.call { callee := Callee.value (Operand.func 16), args := #[Operand.tmp 90, Operand.tmp 92], argTypes := #[24, 24] }, type := 4, pos := "outright.go:33", after := #[{ on := 41, ground := Ground.data }, { on := 43, ground := Ground.data }, { on := 43, ground := Ground.chain }, { on := 40, ground := Ground.guard }], guard := some (40, false) }) rfl (fun K hK => ?_) AllReadyH.nil)
        have HCL := Lib.hid (HSAM.out _ (HN3.out.gl.later HH.out))
        go_simp
        refine HCL.out.mono ?_
        rintro e Wf ⟨rfl, hb⟩
        replace HH := Lib.hid (stepB HH.out hb)
        clear hb HCL hHeld
        refine hK.out _ _ HH.out (fun hHeld => ?_)
        clear hK K
        refine wpAnyH_take (i := 45) (oi := { dst := some 94, op := Op.unOp UnOp.not 4 (Operand.tmp 93), type := 4, pos := "outright.go:33", after := #[{ on := 44, ground := Ground.data }, { on := 40, ground := Ground.guard }], guard := some (40, false) }) (v := ?_) rfl (by kernel_rfl) (by kernel_rfl) (by kernel_rfl) (fun _ _ _ h => h) (Or.inl ⟨by rfl, ?_⟩) (by assumption) ?_
        rotate_left
        · intro W hSw
          clear hSw
          go_simp
          try with_reducible rfl
        simp only [Act.put, List.setIfInBounds_toArray, List.set_cons_zero, List.set_cons_succ]
        refine wpAnyH_take (i := 46) (oi := { dst := some 95, op := Op.pick (Operand.tmp 89) (Operand.const (Value.bool true)) (Operand.tmp 94), type := 4, pos := "outright.go:33", after := #[{ on := 40, ground := Ground.data }, { on := 45, ground := Ground.data }], guard := none }) (v := ?_) rfl (by kernel_rfl) (by kernel_rfl) (by kernel_rfl) (fun _ _ _ h => h) (Or.inl ⟨by rfl, ?_⟩) (by assumption) ?_
        rotate_left
        · intro W hSw
          clear hSw
          go_simp
          try with_reducible rfl
        simp only [Act.put, List.setIfInBounds_toArray, List.set_cons_zero, List.set_cons_succ]
        refine wpAnyH_done (by kernel_rfl) (NoPanic.normal ?_) _
        have HF := Lib.hid (HN3.out.later HH.out)
        clear hHeld HH HSHW HMAY HCLN HSAM HNEE HNQ HBX
        go_wp2
        go_roundw
        case rel => exact ⟨k + 1, (k : Int), by omega, by go_num, HF.out⟩
        case measure => simp [intOf]; omega
      · have HKC : Hid (10 ≤ k ∧ k ≤ 10) := Lib.hid (by omega)
        clear hk10
        have m1 : mayK k = false := by have hkc := HKC.out; unfold mayK; simp; omega
        have HPA := parse_any s w6 (by have := HAL.out.2.2.2.2.2.2.2; omega) HN2.out.gl
        rw [parV_eq] at HPA
        rw [show parC s = cl0 by unfold parC; rw [HAL.out.2.1, m1]; rfl, show parE s = 4 by unfold parE; rw [HAL.out.2.1, m1]; rfl] at HPA
        unfold clV cl0 emp at HPA
        simp only at HPA
        have HPB := Lib.hid HPA
        clear HPA
        go_wp2_with fail
        refine HPB.out.mono ?_
        rintro e w7 ⟨rfl, hb⟩
        have hby : Below w7.heap.size w7 (w7.alloc (.cells #[.int .u8 0, .int .i64 0, .string { data := #[] }, .string { data := #[] }, .string { data := #[] }, .int .i64 0, .int .u8 0] 24)) := (Below.refl _ _).alloc (Nat.le_refl _) _
        have HY : Hid (Blk (w7.alloc (.cells #[.int .u8 0, .int .i64 0, .string { data := #[] }, .string { data := #[] }, .string { data := #[] }, .int .i64 0, .int .u8 0] 24)) w7.heap.size #[.int .u8 0, .int .i64 0, .string { data := #[] }, .string { data := #[] }, .string { data := #[] }, .int .i64 0, .int .u8 0] 24) := Blk.new _ _ _
        have HN3 := Lib.hid ((HN2.out.later hb).later hby)
        clear hb hby HPB t0 HN2
        go_upto_region 10 with (fail)
        generalize w7.alloc (.cells #[.int .u8 0, .int .i64 0, .string { data := #[] }, .string { data := #[] }, .string { data := #[] }, .int .i64 0, .int .u8 0] 24) = w8 at *
        obtain ⟨py, hpy⟩ : ∃ x, w7.heap.size = x := ⟨_, rfl⟩
        rw [hpy] at HY ⊢
        clear hpy
        have p0 : decide ((0 : Int) < (k : Int)) = true := by have hkc := HKC.out; simp; omega
        have p0' : decide (0 < k) = true := by have hkc := HKC.out; simp; omega
        have p1 : decide ((k : Int) < 10) = false := by have hkc := HKC.out; simp; omega
        have g1 : decide ((1 : Int) < (k : Int)) = true := by have hkc := HKC.out; simp; omega
        have g2 : decide ((k : Int) < 8) = false := by have hkc := HKC.out; simp; omega

        go_upto_region 11 with (fail)
        have HSHW : Hid (∀ V, Gl V → Calls Tryd.prog 12 #[.agg #[.int .u8 (k : Int), .int .i64 (-3), .string { data := #[107] }, .string { data := #[255, 0] }, .string { data := #[118] }, .int .i64 7, .int .u8 2]] V fun e w' => e = .returned (.string s) ∧ Below V.heap.size V w') := Lib.hid (fun V hV => by
          have hm9 : (10 : Nat) ≤ 100000 := by decide
          have h := show_any (allC k) V ⟨by show k ≤ 255; omega, by show (2 : Nat) ≤ 255; decide, by show (-9223372036854775808 : Int) ≤ -3 ∧ (-3 : Int) ≤ 9223372036854775807; omega, by show (-9223372036854775808 : Int) ≤ 7 ∧ (7 : Int) ≤ 9223372036854775807; omega, by show (1 : Nat) ≤ 100000; decide, by show (2 : Nat) ≤ 100000; decide, by show (1 : Nat) ≤ 100000; decide⟩ hV (by have := HAL.out.2.2.2.2.2.2.1; omega)
          rw [HAL.out.1] at h
          exact h)
        have HMAY : Hid (∀ V, Gl V → Calls Tryd.prog 13 #[.agg #[.int .u8 (k : Int), .int .i64 (-3), .string { data := #[107] }, .string { data := #[255, 0] }, .string { data := #[118] }, .int .i64 7, .int .u8 2]] V fun e w' => e = .returned (.int .i64 1) ∧ Below V.heap.size V w') := Lib.hid (fun V hV => by
          have h := may_any (allC k) V (by show k ≤ 255; omega) (by show (2 : Nat) ≤ 255; decide) hV
          rw [HAL.out.2.2.1, m1] at h
          exact h)
        have HCLN : Hid (∀ V, Gl V → Calls Tryd.prog 14 #[.agg #[.int .u8 (k : Int), .int .i64 (-3), .string { data := #[107] }, .string { data := #[255, 0] }, .string { data := #[118] }, .int .i64 7, .int .u8 2]] V fun e w' => e = .returned (.agg #[.int .u8 (kn3 : Int), .int .i64 tx3, .string ke3, .string en3, .string va3, .int .i64 li3, .int .u8 (eg3 : Int)]) ∧ Below V.heap.size V w') := Lib.hid (fun V hV => by
          have h := clean_any k (-3) { data := #[107] } { data := #[255, 0] } { data := #[118] } 7 2 V (by omega) hV
          rw [show clnC (k, -3, { data := #[107] }, { data := #[255, 0] }, { data := #[118] }, 7, 2) = (kn3, tx3, ke3, en3, va3, li3, eg3) from HC3.out] at h
          exact h)
        have HSAM : Hid (∀ V, Gl V → Calls Tryd.prog 16 #[.agg #[.int .u8 (k : Int), .int .i64 (-3), .string { data := #[107] }, .string { data := #[255, 0] }, .string { data := #[118] }, .int .i64 7, .int .u8 2], .agg #[.int .u8 (kn3 : Int), .int .i64 tx3, .string ke3, .string en3, .string va3, .int .i64 li3, .int .u8 (eg3 : Int)]] V fun e w' => e = .returned (.bool true) ∧ Below V.heap.size V w') := Lib.hid (fun V hV => by
          have hk3 : kn3 ≤ 255 := by
            have h1 := congrArg (fun z : Cl => z.1) HC3.out
            have h2 : k = kn3 := h1
            omega
          have h := same_any k (-3) { data := #[107] } { data := #[255, 0] } { data := #[118] } 7 2 kn3 tx3 ke3 en3 va3 li3 eg3 V (by omega) hk3 hV
          rw [show sameC (k, -3, { data := #[107] }, { data := #[255, 0] }, { data := #[118] }, 7, 2) (kn3, tx3, ke3, en3, va3, li3, eg3) = true from HAL.out.2.2.2.2.2.1] at h
          exact h)
        have HNEE : Hid (∀ V, Gl V → Calls Tryd.prog 15 #[.int .u8 (k : Int)] V fun e w' => e = .returned (.bool false) ∧ Below V.heap.size V w') := Lib.hid (fun V hV => by
          have h := needs_any k V (by omega) hV
          rw [HAL.out.2.2.2.2.1, show (decide (2 ≤ k) && decide (k ≤ 7)) = false by have hkc := HKC.out; simp; omega] at h
          exact h)
        have HNQ : Hid (∀ V : World, (binOp .neq 24 (.agg #[.int .u8 (kn3 : Int), .int .i64 tx3, .string ke3, .string en3, .string va3, .int .i64 li3, .int .u8 (eg3 : Int)]) (.agg #[.int .u8 (kn3 : Int), .int .i64 tx3, .string ke3, .string en3, .string va3, .int .i64 li3, .int .u8 (eg3 : Int)])).run Tryd.prog V = .ok (.bool false) V) := Lib.hid (fun V => by
          have h := neq24 (kn3, tx3, ke3, en3, va3, li3, eg3) (kn3, tx3, ke3, en3, va3, li3, eg3) V
          rw [decide_eq_true rfl] at h
          exact h)
        have HRK2 := HRK
        clear m1 d2
        refine wp_region_noPanic ?_
        obtain ⟨W0, rfl⟩ : ∃ W0 : World, W0 = w8 := ⟨_, rfl⟩
        refine wp_region_held_drew (S := fun W => Below W0.heap.size W0 W) (by kernel_rfl) (Below.drew (Below.refl _ _)) (fun hHeld => ?_)
        have HH := Lib.hid hHeld
        have HBX := Lib.hid HN3.out.bx
        refine wpAnyH_take (i := 0) (oi := { dst := some 49, op := Op.load 24 (Operand.tmp 1), type := 24, pos := "outright.go:33", after := #[], guard := none }) (v := ?_) rfl (by kernel_rfl) (by kernel_rfl) (by kernel_rfl) (fun _ _ _ h => h) (Or.inl ⟨by rfl, ?_⟩) (by assumption) ?_
        rotate_left
        · intro W hSw
          have x0 := (HBX.out.later hSw).cell 0
          have x1 := (HBX.out.later hSw).cell 1
          have x2 := (HBX.out.later hSw).cell 2
          have x3 := (HBX.out.later hSw).cell 3
          have x4 := (HBX.out.later hSw).cell 4
          have x5 := (HBX.out.later hSw).cell 5
          have x6 := (HBX.out.later hSw).cell 6
          simp only [List.getElem?_toArray, List.getElem?_cons_zero, List.getElem?_cons_succ] at x0 x1 x2 x3 x4 x5 x6
          go_simp
          try with_reducible rfl
        simp only [Act.put, List.setIfInBounds_toArray, List.set_cons_zero, List.set_cons_succ]
        refine wpAnyH_take (i := 2) (oi := { dst := some 51, op := Op.move (Operand.tmp 2), type := 25, pos := "outright.go:33", after := #[], guard := none }) (v := ?_) rfl (by kernel_rfl) (by kernel_rfl) (by kernel_rfl) (fun _ _ _ h => h) (Or.inl ⟨by rfl, ?_⟩) (by assumption) ?_
        rotate_left
        · intro W hSw
          clear hSw
          go_simp
          try with_reducible rfl
        simp only [Act.put, List.setIfInBounds_toArray, List.set_cons_zero, List.set_cons_succ]
        refine wpAnyH_take (i := 3) (oi := { dst := some 52, op := Op.move (Operand.tmp 3), type := 5, pos := "outright.go:33", after := #[], guard := none }) (v := ?_) rfl (by kernel_rfl) (by kernel_rfl) (by kernel_rfl) (fun _ _ _ h => h) (Or.inl ⟨by rfl, ?_⟩) (by assumption) ?_
        rotate_left
        · intro W hSw
          clear hSw
          go_simp
          try with_reducible rfl
        simp only [Act.put, List.setIfInBounds_toArray, List.set_cons_zero, List.set_cons_succ]
        refine wpAnyH_take (i := 4) (oi := { dst := some 53, op := Op.indexAddr 25 (Operand.tmp 51) (Operand.tmp 52), type := 0, pos := "outright.go:33", after := #[{ on := 2, ground := Ground.data }, { on := 3, ground := Ground.data }], guard := none }) (v := ?_) rfl (by kernel_rfl) (by kernel_rfl) (by kernel_rfl) (fun _ _ _ h => h) (Or.inl ⟨by rfl, ?_⟩) (by assumption) ?_
        rotate_left
        · intro W hSw
          clear hSw
          have i2 := i1
          go_simp
          try with_reducible rfl
        simp only [Act.put, List.setIfInBounds_toArray, List.set_cons_zero, List.set_cons_succ]
        refine wpAnyH_take (i := 5) (oi := { dst := some 54, op := Op.load 9 (Operand.tmp 53), type := 9, pos := "outright.go:33", after := #[{ on := 4, ground := Ground.data }], guard := none }) (v := ?_) rfl (by kernel_rfl) (by kernel_rfl) (by kernel_rfl) (fun _ _ _ h => h) (Or.inl ⟨by rfl, ?_⟩) (by assumption) ?_
        rotate_left
        · intro W hSw
          have t0 := sl_at (HN3.out.tx.later hSw) HRK2.out
          go_simp
          try with_reducible rfl
        simp only [Act.put, List.setIfInBounds_toArray, List.set_cons_zero, List.set_cons_succ]
        refine wpAnyH_ready (rs := [1]) (by kernel_rfl) (by simp) (AllReadyH.cons (o := { dst := some 50, op := Op.call { callee := Callee.value (Operand.func 12), args := #[Operand.tmp 49], argTypes := #[24] }, type := 9, pos := "outright.go:33", after := #[{ on := 0, ground := Ground.data }], guard := none }) rfl (fun K hK => ?_) AllReadyH.nil)
        have HCL := Lib.hid (HSHW.out _ (HN3.out.gl.later HH.out))
        go_simp
        refine HCL.out.mono ?_
        rintro e Wa ⟨rfl, hb⟩
        replace HH := Lib.hid (stepB HH.out hb)
        clear hb HCL hHeld
        refine hK.out _ _ HH.out (fun hHeld => ?_)
        clear hK K
        refine wpAnyH_take (i := 6) (oi := { dst := some 55, op := Op.binOp BinOp.neq 9 (Operand.tmp 50) (Operand.tmp 54) 9, type := 4, pos := "outright.go:33", after := #[{ on := 1, ground := Ground.data }, { on := 5, ground := Ground.data }], guard := none }) (v := ?_) rfl (by kernel_rfl) (by kernel_rfl) (by kernel_rfl) (fun _ _ _ h => h) (Or.inl ⟨by rfl, ?_⟩) (by assumption) ?_
        rotate_left
        · intro W hSw
          clear hSw
          go_simp
          try with_reducible rfl
        simp only [Act.put, List.setIfInBounds_toArray, List.set_cons_zero, List.set_cons_succ]
        refine wpAnyH_take (i := 7) (oi := { dst := some 56, op := Op.move (Operand.tmp 55), type := 4, pos := "outright.go:33", after := #[{ on := 6, ground := Ground.data }, { on := 1, ground := Ground.chain }], guard := none }) (v := ?_) rfl (by kernel_rfl) (by kernel_rfl) (by kernel_rfl) (fun _ _ _ h => h) (Or.inl ⟨by rfl, ?_⟩) (by assumption) ?_
        rotate_left
        · intro W hSw
          clear hSw
          go_simp
          try with_reducible rfl
        simp only [Act.put, List.setIfInBounds_toArray, List.set_cons_zero, List.set_cons_succ]
        refine wpAnyH_take (i := 8) (oi := { dst := some 57, op := Op.load 24 (Operand.tmp 1), type := 24, pos := "outright.go:33", after := #[{ on := 7, ground := Ground.guard }], guard := some (7, false) }) (v := ?_) rfl (by kernel_rfl) (by kernel_rfl) (by kernel_rfl) (fun _ _ _ h => h) (Or.inl ⟨by rfl, ?_⟩) (by assumption) ?_
        rotate_left
        · intro W hSw
          have x0 := (HBX.out.later hSw).cell 0
          have x1 := (HBX.out.later hSw).cell 1
          have x2 := (HBX.out.later hSw).cell 2
          have x3 := (HBX.out.later hSw).cell 3
          have x4 := (HBX.out.later hSw).cell 4
          have x5 := (HBX.out.later hSw).cell 5
          have x6 := (HBX.out.later hSw).cell 6
          simp only [List.getElem?_toArray, List.getElem?_cons_zero, List.getElem?_cons_succ] at x0 x1 x2 x3 x4 x5 x6
          go_simp
          try with_reducible rfl
        simp only [Act.put, List.setIfInBounds_toArray, List.set_cons_zero, List.set_cons_succ]
        refine wpAnyH_take (i := 11) (oi := { dst := some 60, op := Op.move (Operand.tmp 6), type := 4, pos := "outright.go:33", after := #[{ on := 7, ground := Ground.guard }], guard := some (7, false) }) (v := ?_) rfl (by kernel_rfl) (by kernel_rfl) (by kernel_rfl) (fun _ _ _ h => h) (Or.inl ⟨by rfl, ?_⟩) (by assumption) ?_
        rotate_left
        · intro W hSw
          clear hSw
          go_simp
          try with_reducible rfl
        simp only [Act.put, List.setIfInBounds_toArray, List.set_cons_zero, List.set_cons_succ]
        refine wpAnyH_ready (rs := [9]) (by kernel_rfl) (by simp) (AllReadyH.cons (o := { dst := some 58, op := Op.call { callee := Callee.value (Operand.func 13), args := #[Operand.tmp 57], argTypes := #[24] }, type := 26, pos := "outright.go:33", after := #[{ on := 8, ground := Ground.data }, { on := 7, ground := Ground.chain }, { on := 7, ground := Ground.guard }], guard := some (7, false) }) rfl (fun K hK => ?_) AllReadyH.nil)
        have HCL := Lib.hid (HMAY.out _ (HN3.out.gl.later HH.out))
        go_simp
        refine HCL.out.mono ?_
        rintro e Wb ⟨rfl, hb⟩
        replace HH := Lib.hid (stepB HH.out hb)
        clear hb HCL hHeld
        refine hK.out _ _ HH.out (fun hHeld => ?_)
        clear hK K
        refine wpAnyH_take (i := 10) (oi := { dst := some 59, op := Op.binOp BinOp.eql 26 (Operand.tmp 58) (Operand.const (Value.int IntKind.i64 0)) 26, type := 4, pos := "outright.go:33", after := #[{ on := 9, ground := Ground.data }, { on := 7, ground := Ground.guard }], guard := some (7, false) }) (v := ?_) rfl (by kernel_rfl) (by kernel_rfl) (by kernel_rfl) (fun _ _ _ h => h) (Or.inl ⟨by rfl, ?_⟩) (by assumption) ?_
        rotate_left
        · intro W hSw
          clear hSw
          go_simp
          try with_reducible rfl
        simp only [Act.put, List.setIfInBounds_toArray, List.set_cons_zero, List.set_cons_succ]
        refine wpAnyH_take (i := 12) (oi := { dst := some 61, op := Op.binOp BinOp.neq 4 (Operand.tmp 59) (Operand.tmp 60) 4, type := 4, pos := "outright.go:33", after := #[{ on := 10, ground := Ground.data }, { on := 11, ground := Ground.data }, { on := 7, ground := Ground.guard }], guard := some (7, false) }) (v := ?_) rfl (by kernel_rfl) (by kernel_rfl) (by kernel_rfl) (fun _ _ _ h => h) (Or.inl ⟨by rfl, ?_⟩) (by assumption) ?_
        rotate_left
        · intro W hSw
          clear hSw
          go_simp
          try with_reducible rfl
        simp only [Act.put, List.setIfInBounds_toArray, List.set_cons_zero, List.set_cons_succ]
        refine wpAnyH_take (i := 13) (oi := { dst := some 62, op := Op.pick (Operand.tmp 56) (Operand.const (Value.bool true)) (Operand.tmp 61), type := 4, pos := "outright.go:33", after := #[{ on := 7, ground := Ground.data }, { on := 12, ground := Ground.data }], guard := none }) (v := ?_) rfl (by kernel_rfl) (by kernel_rfl) (by kernel_rfl) (fun _ _ _ h => h) (Or.inl ⟨by rfl, ?_⟩) (by assumption) ?_
        rotate_left
        · intro W hSw
          clear hSw
          go_simp
          try with_reducible rfl
        simp only [Act.put, List.setIfInBounds_toArray, List.set_cons_zero, List.set_cons_succ]
        refine wpAnyH_take (i := 14) (oi := { dst := some 63, op := Op.move (Operand.tmp 62), type := 4, pos := "outright.go:33", after := #[{ on := 13, ground := Ground.data }, { on := 9, ground := Ground.chain }], guard := none }) (v := ?_) rfl (by kernel_rfl) (by kernel_rfl) (by kernel_rfl) (fun _ _ _ h => h) (Or.inl ⟨by rfl, ?_⟩) (by assumption) ?_
        rotate_left
        · intro W hSw
          clear hSw
          go_simp
          try with_reducible rfl
        simp only [Act.put, List.setIfInBounds_toArray, List.set_cons_zero, List.set_cons_succ]
        refine wpAnyH_take (i := 15) (oi := { dst := some 64, op := Op.move (Operand.tmp 5), type := 26, pos := "outright.go:33", after := #[{ on := 14, ground := Ground.guard }], guard := some (14, false) }) (v := ?_) rfl (by kernel_rfl) (by kernel_rfl) (by kernel_rfl) (fun _ _ _ h => h) (Or.inl ⟨by rfl, ?_⟩) (by assumption) ?_
        rotate_left
        · intro W hSw
          clear hSw
          go_simp
          try with_reducible rfl
        simp only [Act.put, List.setIfInBounds_toArray, List.set_cons_zero, List.set_cons_succ]
        refine wpAnyH_take (i := 16) (oi := { dst := some 65, op := Op.binOp BinOp.eql 26 (Operand.tmp 64) (Operand.const (Value.int IntKind.i64 0)) 26, type := 4, pos := "outright.go:33", after := #[{ on := 15, ground := Ground.data }, { on := 14, ground := Ground.guard }], guard := some (14, false) }) (v := ?_) rfl (by kernel_rfl) (by kernel_rfl) (by kernel_rfl) (fun _ _ _ h => h) (Or.inl ⟨by rfl, ?_⟩) (by assumption) ?_
        rotate_left
        · intro W hSw
          clear hSw
          go_simp
          try with_reducible rfl
        simp only [Act.put, List.setIfInBounds_toArray, List.set_cons_zero, List.set_cons_succ]
        refine wpAnyH_take (i := 17) (oi := { dst := some 66, op := Op.move (Operand.tmp 6), type := 4, pos := "outright.go:33", after := #[{ on := 14, ground := Ground.guard }], guard := some (14, false) }) (v := ?_) rfl (by kernel_rfl) (by kernel_rfl) (by kernel_rfl) (fun _ _ _ h => h) (Or.inl ⟨by rfl, ?_⟩) (by assumption) ?_
        rotate_left
        · intro W hSw
          clear hSw
          go_simp
          try with_reducible rfl
        simp only [Act.put, List.setIfInBounds_toArray, List.set_cons_zero, List.set_cons_succ]
        refine wpAnyH_take (i := 18) (oi := { dst := some 67, op := Op.binOp BinOp.neq 4 (Operand.tmp 65) (Operand.tmp 66) 4, type := 4, pos := "outright.go:33", after := #[{ on := 16, ground := Ground.data }, { on := 17, ground := Ground.data }, { on := 14, ground := Ground.guard }], guard := some (14, false) }) (v := ?_) rfl (by kernel_rfl) (by kernel_rfl) (by kernel_rfl) (fun _ _ _ h => h) (Or.inl ⟨by rfl, ?_⟩) (by assumption) ?_
        rotate_left
        · intro W hSw
          clear hSw
          go_simp
          try with_reducible rfl
        simp only [Act.put, List.setIfInBounds_toArray, List.set_cons_zero, List.set_cons_succ]
        refine wpAnyH_take (i := 19) (oi := { dst := some 68, op := Op.pick (Operand.tmp 63) (Operand.const (Value.bool true)) (Operand.tmp 67), type := 4, pos := "outright.go:33", after := #[{ on := 14, ground := Ground.data }, { on := 18, ground := Ground.data }], guard := none }) (v := ?_) rfl (by kernel_rfl) (by kernel_rfl) (by kernel_rfl) (fun _ _ _ h => h) (Or.inl ⟨by rfl, ?_⟩) (by assumption) ?_
        rotate_left
        · intro W hSw
          clear hSw
          go_simp
          try with_reducible rfl
        simp only [Act.put, List.setIfInBounds_toArray, List.set_cons_zero, List.set_cons_succ]
        refine wpAnyH_take (i := 20) (oi := { dst := some 69, op := Op.move (Operand.tmp 68), type := 4, pos := "outright.go:33", after := #[{ on := 19, ground := Ground.data }, { on := 14, ground := Ground.chain }], guard := none }) (v := ?_) rfl (by kernel_rfl) (by kernel_rfl) (by kernel_rfl) (fun _ _ _ h => h) (Or.inl ⟨by rfl, ?_⟩) (by assumption) ?_
        rotate_left
        · intro W hSw
          clear hSw
          go_simp
          try with_reducible rfl
        simp only [Act.put, List.setIfInBounds_toArray, List.set_cons_zero, List.set_cons_succ]
        refine wpAnyH_take (i := 21) (oi := { dst := some 70, op := Op.move (Operand.tmp 6), type := 4, pos := "outright.go:33", after := #[{ on := 20, ground := Ground.guard }], guard := some (20, false) }) (v := ?_) rfl (by kernel_rfl) (by kernel_rfl) (by kernel_rfl) (fun _ _ _ h => h) (Or.inl ⟨by rfl, ?_⟩) (by assumption) ?_
        rotate_left
        · intro W hSw
          clear hSw
          go_simp
          try with_reducible rfl
        simp only [Act.put, List.setIfInBounds_toArray, List.set_cons_zero, List.set_cons_succ]
        refine wpAnyH_take (i := 22) (oi := { dst := some 71, op := Op.move (Operand.tmp 70), type := 4, pos := "outright.go:33", after := #[{ on := 21, ground := Ground.data }, { on := 20, ground := Ground.chain }, { on := 20, ground := Ground.guard }], guard := some (20, false) }) (v := ?_) rfl (by kernel_rfl) (by kernel_rfl) (by kernel_rfl) (fun _ _ _ h => h) (Or.inl ⟨by rfl, ?_⟩) (by assumption) ?_
        rotate_left
        · intro W hSw
          clear hSw
          go_simp
          try with_reducible rfl
        simp only [Act.put, List.setIfInBounds_toArray, List.set_cons_zero, List.set_cons_succ]
        refine wpAnyH_take (i := 23) (oi := { dst := some 72, op := Op.load 24 (Operand.tmp 4), type := 24, pos := "outright.go:33", after := #[{ on := 22, ground := Ground.guard }], guard := some (22, true) }) (v := undef) rfl (by kernel_rfl) (by kernel_rfl) (by kernel_rfl) (fun _ _ _ h => h) (Or.inr ⟨by rfl, rfl⟩) (by assumption) ?_
        simp only [Act.put, List.setIfInBounds_toArray, List.set_cons_zero, List.set_cons_succ]
        refine wpAnyH_take (i := 24) (oi := { dst := some 73, op := Op.load 24 (Operand.tmp 1), type := 24, pos := "outright.go:33", after := #[{ on := 22, ground := Ground.guard }], guard := some (22, true) }) (v := undef) rfl (by kernel_rfl) (by kernel_rfl) (by kernel_rfl) (fun _ _ _ h => h) (Or.inr ⟨by rfl, rfl⟩) (by assumption) ?_
        simp only [Act.put, List.setIfInBounds_toArray, List.set_cons_zero, List.set_cons_succ]
        refine wpAnyH_take (i := 25) (oi := { dst := some 74, op := Op.call { callee := Callee.value (Operand.func 14), args := #[Operand.tmp 73], argTypes := #[24] }, type := 24, pos := "outright.go:33", after := #[{ on := 24, ground := Ground.data }, { on := 22, ground := Ground.chain }, { on := 22, ground := Ground.guard }], guard := some (22, true) }) (v := undef) rfl (by kernel_rfl) (by kernel_rfl) (by kernel_rfl) (fun _ _ _ h => h) (Or.inr ⟨by rfl, rfl⟩) (by assumption) ?_
        simp only [Act.put, List.setIfInBounds_toArray, List.set_cons_zero, List.set_cons_succ]
        refine wpAnyH_take (i := 26) (oi := { dst := some 75, op := Op.binOp BinOp.neq 24 (Operand.tmp 72) (Operand.tmp 74) 24, type := 4, pos := "outright.go:33", after := #[{ on := 23, ground := Ground.data }, { on := 25, ground := Ground.data }, { on := 22, ground := Ground.guard }], guard := some (22, true) }) (v := undef) rfl (by kernel_rfl) (by kernel_rfl) (by kernel_rfl) (fun _ _ _ h => h) (Or.inr ⟨by rfl, rfl⟩) (by assumption) ?_
        simp only [Act.put, List.setIfInBounds_toArray, List.set_cons_zero, List.set_cons_succ]
        refine wpAnyH_take (i := 27) (oi := { dst := some 76, op := Op.pick (Operand.tmp 71) (Operand.tmp 75) (Operand.const (Value.bool false)), type := 4, pos := "outright.go:33", after := #[{ on := 22, ground := Ground.data }, { on := 26, ground := Ground.data }, { on := 20, ground := Ground.guard }], guard := some (20, false) }) (v := ?_) rfl (by kernel_rfl) (by kernel_rfl) (by kernel_rfl) (fun _ _ _ h => h) (Or.inl ⟨by rfl, ?_⟩) (by assumption) ?_
        rotate_left
        · intro W hSw
          clear hSw
          go_simp
          try with_reducible rfl
        simp only [Act.put, List.setIfInBounds_toArray, List.set_cons_zero, List.set_cons_succ]
        refine wpAnyH_take (i := 28) (oi := { dst := some 77, op := Op.pick (Operand.tmp 69) (Operand.const (Value.bool true)) (Operand.tmp 76), type := 4, pos := "outright.go:33", after := #[{ on := 20, ground := Ground.data }, { on := 27, ground := Ground.data }], guard := none }) (v := ?_) rfl (by kernel_rfl) (by kernel_rfl) (by kernel_rfl) (fun _ _ _ h => h) (Or.inl ⟨by rfl, ?_⟩) (by assumption) ?_
        rotate_left
        · intro W hSw
          clear hSw
          go_simp
          try with_reducible rfl
        simp only [Act.put, List.setIfInBounds_toArray, List.set_cons_zero, List.set_cons_succ]
        refine wpAnyH_take (i := 29) (oi := { dst := some 78, op := Op.move (Operand.tmp 77), type := 4, pos := "outright.go:33", after := #[{ on := 28, ground := Ground.data }, { on := 25, ground := Ground.chain }], guard := none }) (v := ?_) rfl (by kernel_rfl) (by kernel_rfl) (by kernel_rfl) (fun _ _ _ h => h) (Or.inl ⟨by rfl, ?_⟩) (by assumption) ?_
        rotate_left
        · intro W hSw
          clear hSw
          go_simp
          try with_reducible rfl
        simp only [Act.put, List.setIfInBounds_toArray, List.set_cons_zero, List.set_cons_succ]
        refine wpAnyH_take (i := 30) (oi := { dst := some 79, op := Op.move (Operand.tmp 3), type := 5, pos := "outright.go:33", after := #[{ on := 29, ground := Ground.guard }], guard := some (29, false) }) (v := ?_) rfl (by kernel_rfl) (by kernel_rfl) (by kernel_rfl) (fun _ _ _ h => h) (Or.inl ⟨by rfl, ?_⟩) (by assumption) ?_
        rotate_left
        · intro W hSw
          clear hSw
          go_simp
          try with_reducible rfl
        simp only [Act.put, List.setIfInBounds_toArray, List.set_cons_zero, List.set_cons_succ]
        refine wpAnyH_take (i := 32) (oi := { dst := some 81, op := Op.move (Operand.tmp 3), type := 5, pos := "outright.go:33", after := #[{ on := 29, ground := Ground.guard }], guard := some (29, false) }) (v := ?_) rfl (by kernel_rfl) (by kernel_rfl) (by kernel_rfl) (fun _ _ _ h => h) (Or.inl ⟨by rfl, ?_⟩) (by assumption) ?_
        rotate_left
        · intro W hSw
          clear hSw
          go_simp
          try with_reducible rfl
        simp only [Act.put, List.setIfInBounds_toArray, List.set_cons_zero, List.set_cons_succ]
        refine wpAnyH_take (i := 33) (oi := { dst := some 82, op := Op.binOp BinOp.gtr 5 (Operand.tmp 81) (Operand.const (Value.int IntKind.u8 1)) 5, type := 4, pos := "outright.go:33", after := #[{ on := 32, ground := Ground.data }, { on := 29, ground := Ground.guard }], guard := some (29, false) }) (v := ?_) rfl (by kernel_rfl) (by kernel_rfl) (by kernel_rfl) (fun _ _ _ h => h) (Or.inl ⟨by rfl, ?_⟩) (by assumption) ?_
        rotate_left
        · intro W hSw
          clear hSw
          have q1 := g1
          go_simp
          try with_reducible rfl
        simp only [Act.put, List.setIfInBounds_toArray, List.set_cons_zero, List.set_cons_succ]
        refine wpAnyH_ready (rs := [31]) (by kernel_rfl) (by simp) (AllReadyH.cons (o := { dst := some 80, op := Op.call { callee := Callee.value (Operand.func 15), args := #[Operand.tmp 79], argTypes := #[5] }, type := 4, pos := "outright.go:33", after := #[{ on := 30, ground := Ground.data }, { on := 29, ground := Ground.chain }, { on := 29, ground := Ground.guard }], guard := some (29, false) }) rfl (fun K hK => ?_) AllReadyH.nil)
        have HCL := Lib.hid (HNEE.out _ (HN3.out.gl.later HH.out))
        go_simp
        refine HCL.out.mono ?_
        rintro e Wd ⟨rfl, hb⟩
        replace HH := Lib.hid (stepB HH.out hb)
        clear hb HCL hHeld
        refine hK.out _ _ HH.out (fun hHeld => ?_)
        clear hK K
        refine wpAnyH_take (i := 34) (oi := { dst := some 83, op := Op.move (Operand.tmp 82), type := 4, pos := "outright.go:33", after := #[{ on := 33, ground := Ground.data }, { on := 31, ground := Ground.chain }, { on := 29, ground := Ground.guard }], guard := some (29, false) }) (v := ?_) rfl (by kernel_rfl) (by kernel_rfl) (by kernel_rfl) (fun _ _ _ h => h) (Or.inl ⟨by rfl, ?_⟩) (by assumption) ?_
        rotate_left
        · intro W hSw
          clear hSw
          go_simp
          try with_reducible rfl
        simp only [Act.put, List.setIfInBounds_toArray, List.set_cons_zero, List.set_cons_succ]
        refine wpAnyH_take (i := 35) (oi := { dst := some 84, op := Op.move (Operand.tmp 3), type := 5, pos := "outright.go:33", after := #[{ on := 34, ground := Ground.guard }], guard := some (34, true) }) (v := ?_) rfl (by kernel_rfl) (by kernel_rfl) (by kernel_rfl) (fun _ _ _ h => h) (Or.inl ⟨by rfl, ?_⟩) (by assumption) ?_
        rotate_left
        · intro W hSw
          clear hSw
          go_simp
          try with_reducible rfl
        simp only [Act.put, List.setIfInBounds_toArray, List.set_cons_zero, List.set_cons_succ]
        refine wpAnyH_take (i := 36) (oi := { dst := some 85, op := Op.binOp BinOp.lss 5 (Operand.tmp 84) (Operand.const (Value.int IntKind.u8 8)) 5, type := 4, pos := "outright.go:33", after := #[{ on := 35, ground := Ground.data }, { on := 34, ground := Ground.guard }], guard := some (34, true) }) (v := ?_) rfl (by kernel_rfl) (by kernel_rfl) (by kernel_rfl) (fun _ _ _ h => h) (Or.inl ⟨by rfl, ?_⟩) (by assumption) ?_
        rotate_left
        · intro W hSw
          clear hSw
          have q1 := g2
          go_simp
          try with_reducible rfl
        simp only [Act.put, List.setIfInBounds_toArray, List.set_cons_zero, List.set_cons_succ]
        refine wpAnyH_take (i := 37) (oi := { dst := some 86, op := Op.pick (Operand.tmp 83) (Operand.tmp 85) (Operand.const (Value.bool false)), type := 4, pos := "outright.go:33", after := #[{ on := 34, ground := Ground.data }, { on := 36, ground := Ground.data }, { on := 29, ground := Ground.guard }], guard := some (29, false) }) (v := ?_) rfl (by kernel_rfl) (by kernel_rfl) (by kernel_rfl) (fun _ _ _ h => h) (Or.inl ⟨by rfl, ?_⟩) (by assumption) ?_
        rotate_left
        · intro W hSw
          clear hSw
          go_simp
          try with_reducible rfl
        simp only [Act.put, List.setIfInBounds_toArray, List.set_cons_zero, List.set_cons_succ]
        refine wpAnyH_take (i := 38) (oi := { dst := some 87, op := Op.binOp BinOp.neq 4 (Operand.tmp 80) (Operand.tmp 86) 4, type := 4, pos := "outright.go:33", after := #[{ on := 31, ground := Ground.data }, { on := 37, ground := Ground.data }, { on := 29, ground := Ground.guard }], guard := some (29, false) }) (v := ?_) rfl (by kernel_rfl) (by kernel_rfl) (by kernel_rfl) (fun _ _ _ h => h) (Or.inl ⟨by rfl, ?_⟩) (by assumption) ?_
        rotate_left
        · intro W hSw
          clear hSw
          go_simp
          try with_reducible rfl
        simp only [Act.put, List.setIfInBounds_toArray, List.set_cons_zero, List.set_cons_succ]
        refine wpAnyH_take (i := 39) (oi := { dst := some 88, op := Op.pick (Operand.tmp 78) (Operand.const (Value.bool true)) (Operand.tmp 87), type := 4, pos := "outright.go:33", after := #[{ on := 29, ground := Ground.data }, { on := 38, ground := Ground.data }], guard := none }) (v := ?_) rfl (by kernel_rfl) (by kernel_rfl) (by kernel_rfl) (fun _ _ _ h => h) (Or.inl ⟨by rfl, ?_⟩) (by assumption) ?_
        rotate_left
        · intro W hSw
          clear hSw
          go_simp
          try with_reducible rfl
        simp only [Act.put, List.setIfInBounds_toArray, List.set_cons_zero, List.set_cons_succ]
        refine wpAnyH_take (i := 40) (oi := { dst := some 89, op := Op.move (Operand.tmp 88), type := 4, pos := "outright.go:33", after := #[{ on := 39, ground := Ground.data }, { on := 34, ground := Ground.chain }], guard := none }) (v := ?_) rfl (by kernel_rfl) (by kernel_rfl) (by kernel_rfl) (fun _ _ _ h => h) (Or.inl ⟨by rfl, ?_⟩) (by assumption) ?_
        rotate_left
        · intro W hSw
          clear hSw
          go_simp
          try with_reducible rfl
        simp only [Act.put, List.setIfInBounds_toArray, List.set_cons_zero, List.set_cons_succ]
        refine wpAnyH_take (i := 41) (oi := { dst := some 90, op := Op.load 24 (Operand.tmp 1), type := 24, pos := "outright.go:33", after := #[{ on := 40, ground := Ground.guard }], guard := some (40, false) }) (v := ?_) rfl (by kernel_rfl) (by kernel_rfl) (by kernel_rfl) (fun _ _ _ h => h) (Or.inl ⟨by rfl, ?_⟩) (by assumption) ?_
        rotate_left
        · intro W hSw
          have x0 := (HBX.out.later hSw).cell 0
          have x1 := (HBX.out.later hSw).cell 1
          have x2 := (HBX.out.later hSw).cell 2
          have x3 := (HBX.out.later hSw).cell 3
          have x4 := (HBX.out.later hSw).cell 4
          have x5 := (HBX.out.later hSw).cell 5
          have x6 := (HBX.out.later hSw).cell 6
          simp only [List.getElem?_toArray, List.getElem?_cons_zero, List.getElem?_cons_succ] at x0 x1 x2 x3 x4 x5 x6
          go_simp
          try with_reducible rfl
        simp only [Act.put, List.setIfInBounds_toArray, List.set_cons_zero, List.set_cons_succ]
        refine wpAnyH_take (i := 42) (oi := { dst := some 91, op := Op.load 24 (Operand.tmp 1), type := 24, pos := "outright.go:33", after := #[{ on := 40, ground := Ground.guard }], guard := some (40, false) }) (v := ?_) rfl (by kernel_rfl) (by kernel_rfl) (by kernel_rfl) (fun _ _ _ h => h) (Or.inl ⟨by rfl, ?_⟩) (by assumption) ?_
        rotate_left
        · intro W hSw
          have x0 := (HBX.out.later hSw).cell 0
          have x1 := (HBX.out.later hSw).cell 1
          have x2 := (HBX.out.later hSw).cell 2
          have x3 := (HBX.out.later hSw).cell 3
          have x4 := (HBX.out.later hSw).cell 4
          have x5 := (HBX.out.later hSw).cell 5
          have x6 := (HBX.out.later hSw).cell 6
          simp only [List.getElem?_toArray, List.getElem?_cons_zero, List.getElem?_cons_succ] at x0 x1 x2 x3 x4 x5 x6
          go_simp
          try with_reducible rfl
        simp only [Act.put, List.setIfInBounds_toArray, List.set_cons_zero, List.set_cons_succ]
        refine wpAnyH_ready (rs := [43]) (by kernel_rfl) (by simp) (AllReadyH.cons (o := { dst := some 92, op := Op.call { callee := Callee.value (Operand.func 14), args := #[Operand.tmp 91], argTypes := #[24] }, type := 24, pos := "outright.go:33", after := #[{ on := 42, ground := Ground.data }, { on := 40, ground := Ground.chain }, { on := 40, ground := Ground.guard }], guard := some (40, false) }) rfl (fun K hK => ?_) AllReadyH.nil)
        have HCL := Lib.hid (HCLN.out _ (HN3.out.gl.later HH.out))
        go_simp
        refine HCL.out.mono ?_
        rintro e We ⟨rfl, hb⟩
        replace HH := Lib.hid (stepB HH.out hb)
        clear hb HCL hHeld
        refine hK.out _ _ HH.out (fun hHeld => ?_)
        clear hK K
        refine wpAnyH_ready (rs := [44]) (by kernel_rfl) (by simp) (AllReadyH.cons (o := { dst := some 93, op := Op.call { callee := Callee.value (Operand.func 16), args := #[Operand.tmp 90, Operand.tmp 92], argTypes := #[24, 24] }, type := 4, pos := "outright.go:33", after := #[{ on := 41, ground := Ground.data }, { on := 43, ground := Ground.data }, { on := 43, ground := Ground.chain }, { on := 40, ground := Ground.guard }], guard := some (40, false) }) rfl (fun K hK => ?_) AllReadyH.nil)
        have HCL := Lib.hid (HSAM.out _ (HN3.out.gl.later HH.out))
        go_simp
        refine HCL.out.mono ?_
        rintro e Wf ⟨rfl, hb⟩
        replace HH := Lib.hid (stepB HH.out hb)
        clear hb HCL hHeld
        refine hK.out _ _ HH.out (fun hHeld => ?_)
        clear hK K
        refine wpAnyH_take (i := 45) (oi := { dst := some 94, op := Op.unOp UnOp.not 4 (Operand.tmp 93), type := 4, pos := "outright.go:33", after := #[{ on := 44, ground := Ground.data }, { on := 40, ground := Ground.guard }], guard := some (40, false) }) (v := ?_) rfl (by kernel_rfl) (by kernel_rfl) (by kernel_rfl) (fun _ _ _ h => h) (Or.inl ⟨by rfl, ?_⟩) (by assumption) ?_
        rotate_left
        · intro W hSw
          clear hSw
          go_simp
          try with_reducible rfl
        simp only [Act.put, List.setIfInBounds_toArray, List.set_cons_zero, List.set_cons_succ]
        refine wpAnyH_take (i := 46) (oi := { dst := some 95, op := Op.pick (Operand.tmp 89) (Operand.const (Value.bool true)) (Operand.tmp 94), type := 4, pos := "outright.go:33", after := #[{ on := 40, ground := Ground.data }, { on := 45, ground := Ground.data }], guard := none }) (v := ?_) rfl (by kernel_rfl) (by kernel_rfl) (by kernel_rfl) (fun _ _ _ h => h) (Or.inl ⟨by rfl, ?_⟩) (by assumption) ?_
        rotate_left
        · intro W hSw
          clear hSw
          go_simp
          try with_reducible rfl
        simp only [Act.put, List.setIfInBounds_toArray, List.set_cons_zero, List.set_cons_succ]
        refine wpAnyH_done (by kernel_rfl) (NoPanic.normal ?_) _
        have HF := Lib.hid (HN3.out.later HH.out)
        clear hHeld HH HSHW HMAY HCLN HSAM HNEE HNQ HBX
        go_wp2
        go_roundw
        case rel => exact ⟨k + 1, (k : Int), by omega, by go_num, HF.out⟩
        case measure => simp [intOf]; omega
    · have d2 : decide ((k : Int) ≤ 10) = false := decide_eq_false (by omega)
      have c0 := HN.out.bx.cell 0
      simp only [List.getElem?_toArray, List.getElem?_cons_zero, List.getElem?_cons_succ] at c0
      have f0 := HN.out.bx.frozen 0
      have hby : Below (wr.setCell ⟨px, 0, none⟩ (.int .u8 9)).heap.size (wr.setCell ⟨px, 0, none⟩ (.int .u8 9)) ((wr.setCell ⟨px, 0, none⟩ (.int .u8 9)).alloc (.cells #[.int .u8 0, .int .u8 3, .int .u8 255] 5)) := (Below.refl _ _).alloc (Nat.le_refl _) _
      have HNB := Lib.hid ((HN.out.kind 9).later hby)
      have HBY : Hid (Blk ((wr.setCell ⟨px, 0, none⟩ (.int .u8 9)).alloc (.cells #[.int .u8 0, .int .u8 3, .int .u8 255] 5)) wr.heap.size #[.int .u8 0, .int .u8 3, .int .u8 255] 5) := Blk.new2 _ _ 5 (by simp [World.setCell])
      have HPB : Hid (wr.heap.size ≠ px) := Lib.hid (by have := HN.out.bx.lt; omega)
      clear hby
      go_upto_block 2 with (fail)
      clear c0 f0 d2 HN
      generalize ((wr.setCell ⟨px, 0, none⟩ (.int .u8 9)).alloc (.cells #[.int .u8 0, .int .u8 3, .int .u8 255] 5)) = w10 at *
      obtain ⟨pb, hpb⟩ : ∃ x, wr.heap.size = x := ⟨_, rfl⟩
      rw [hpb] at HBY HPB ⊢
      clear hpb
      go_wp2
      go_loopw [99] (fun i wr => ∃ (j : Nat) (g : Int), j ≤ 3 ∧ i = .int .i64 j ∧ NW w wr px pt 9 g ∧ Blk wr pb #[.int .u8 0, .int .u8 3, .int .u8 255] 5) (fun i _ => 3 - (intOf i).toNat)
      case atStart => exact ⟨0, 2, Nat.zero_le _, rfl, HNB.out, HBY.out⟩
      case round =>
        obtain ⟨j, g, hj, rfl, hn, hb⟩ := hrel
        have HN := Lib.hid hn
        have HBT := Lib.hid hb
        clear hn hb HNB HBY
        by_cases hlt : j < 3
        · have d2 : decide ((j : Int) < 3) = true := decide_eq_true (by omega)
          have wk : IntKind.i64.wrap ((j : Int) + 1) = (j : Int) + 1 := IntWalk.i64_in _ (by omega)
          have i1 := idx34 pb 3 3 j (j : Int) rfl hlt
          obtain ⟨b, hbj, hb255, hbm⟩ : ∃ b : Nat, (#[.int .u8 0, .int .u8 3, .int .u8 255] : Array Value)[j]? = some (.int .u8 (b : Int)) ∧ b ≤ 255 ∧ mayC (allE b) = false := by
            match j, hlt with
            | 0, _ => exact ⟨0, rfl, by decide, by decide⟩
            | 1, _ => exact ⟨3, rfl, by decide, by decide⟩
            | 2, _ => exact ⟨255, rfl, by decide, by decide⟩
          have t0 := HBT.out.cell j
          rw [hbj] at t0
          have HBM := Lib.hid hbm
          have HB5 := Lib.hid hb255
          clear hbj hbm hb255
          have c6 := HN.out.bx.cell 6
          simp only [List.getElem?_toArray, List.getElem?_cons_zero, List.getElem?_cons_succ] at c6
          have f6 := HN.out.bx.frozen 6
          go_upto_region 18 with (fail)
          have HN2 := Lib.hid (HN.out.eng (b : Int))
          replace HBT := Lib.hid (HBT.out.other (j := 6) HPB.out (.int .u8 (b : Int)))
          clear c6 f6 t0 HN i1
          generalize wr.setCell ⟨px, 6, none⟩ (.int .u8 (b : Int)) = w11 at *
          have HX := Lib.hid HN2.out.bx
          have x0 := HX.out.cell 0
          have x1 := HX.out.cell 1
          have x2 := HX.out.cell 2
          have x3 := HX.out.cell 3
          have x4 := HX.out.cell 4
          have x5 := HX.out.cell 5
          have x6 := HX.out.cell 6
          simp only [List.getElem?_toArray, List.getElem?_cons_zero, List.getElem?_cons_succ] at x0 x1 x2 x3 x4 x5 x6
          have HMAY : Hid (Calls Tryd.prog 13 #[.agg #[.int .u8 9, .int .i64 (-3), .string { data := #[107] }, .string { data := #[255, 0] }, .string { data := #[118] }, .int .i64 7, .int .u8 (b : Int)]] w11 fun e w' => e = .returned (.int .i64 1) ∧ Below w11.heap.size w11 w') := Lib.hid (by
            have h := may_any (allE b) w11 (by show (9 : Nat) ≤ 255; decide) (by show b ≤ 255; exact HB5.out) HN2.out.gl
            rw [HBM.out] at h
            exact h)
          have HSHW : Hid (∀ V, Gl V → Calls Tryd.prog 12 #[.agg #[.int .u8 9, .int .i64 (-3), .string { data := #[107] }, .string { data := #[255, 0] }, .string { data := #[118] }, .int .i64 7, .int .u8 (b : Int)]] V fun e w' => e = .returned (.string { data := #[] }) ∧ Below V.heap.size V w') := Lib.hid (fun V hV => by
            have hi1 : -9223372036854775808 ≤ (allE b).2.1 ∧ (allE b).2.1 ≤ 9223372036854775807 := by show (-9223372036854775808 : Int) ≤ -3 ∧ (-3 : Int) ≤ 9223372036854775807; omega
            have hi2 : -9223372036854775808 ≤ (allE b).2.2.2.2.2.1 ∧ (allE b).2.2.2.2.2.1 ≤ 9223372036854775807 := by show (-9223372036854775808 : Int) ≤ 7 ∧ (7 : Int) ≤ 9223372036854775807; omega
            have hz := show_size hi1 hi2 (show b ≤ 255 from HB5.out)
            have hz2 : (joinW (showL (allE b))).size ≤ 140737488355328 := Nat.le_trans hz (by show 100 + 2 * (1 + 2 + 1) ≤ 140737488355328; decide)
            have h := show_any (allE b) V ⟨by show (9 : Nat) ≤ 255; decide, HB5.out, hi1, hi2, by show (1 : Nat) ≤ 100000; decide, by show (2 : Nat) ≤ 100000; decide, by show (1 : Nat) ≤ 100000; decide⟩ hV hz2
            rw [show showP (allE b) = emp by unfold showP; rw [HBM.out]; rfl] at h
            exact h)
          go_wp2_with fail
          refine HMAY.out.mono ?_
          rintro e w12 ⟨rfl, hb⟩
          have HN3 := Lib.hid (HN2.out.later hb)
          replace HBT := Lib.hid (HBT.out.later hb)
          replace HX := Lib.hid (HX.out.later hb)
          clear hb HMAY HN2 x0 x1 x2 x3 x4 x5 x6
          have x0 := HX.out.cell 0
          have x1 := HX.out.cell 1
          have x2 := HX.out.cell 2
          have x3 := HX.out.cell 3
          have x4 := HX.out.cell 4
          have x5 := HX.out.cell 5
          have x6 := HX.out.cell 6
          simp only [List.getElem?_toArray, List.getElem?_cons_zero, List.getElem?_cons_succ] at x0 x1 x2 x3 x4 x5 x6
          go_wp2_with fail
          refine (HSHW.out w12 HN3.out.gl).mono ?_
          rintro e w13 ⟨rfl, hb⟩
          have HN4 := Lib.hid (HN3.out.later hb)
          replace HBT := Lib.hid (HBT.out.later hb)
          clear hb HSHW HN3 x0 x1 x2 x3 x4 x5 x6 HX
          go_wp2
          go_roundw
          case rel => exact ⟨j + 1, (b : Int), by omega, by go_num, HN4.out, HBT.out⟩
          case measure => simp [intOf]; omega
        · have d2 : decide ((j : Int) < 3) = false := decide_eq_false (by omega)
          have hby : Below wr.heap.size wr (wr.alloc (.cells #[.string { data := #[] }, .string { data := #[32] }, .string { data := #[98, 101, 103, 105, 110, 32, 98, 101, 103, 105, 110] }, .string { data := #[66, 101, 103, 105, 110] }, .string { data := #[103, 101, 116] }, .string { data := #[103, 101, 116, 32, 49, 32, 54] }, .string { data := #[103, 101, 116, 32, 49, 32, 54, 66] }, .string { data := #[103, 101, 116, 32, 49, 32, 54, 103] }, .string { data := #[103, 101, 116, 32, 49, 32, 54, 49, 32, 54, 49] }, .string { data := #[103, 101, 116, 32, 32, 49, 32, 54, 49] }, .string { data := #[103, 101, 116, 32, 49, 32, 45, 45, 32] }, .string { data := #[103, 101, 116, 32, 49, 32, 45, 54, 49] }, .string { data := #[103, 101, 116, 32, 45, 48, 32, 54, 49] }, .string { data := #[103, 101, 116, 32, 43, 49, 32, 54, 49] }, .string { data := #[112, 117, 116, 32, 49, 32, 54, 49] }, .string { data := #[115, 99, 97, 110, 32, 49, 32, 45, 32, 45, 32, 45, 48] }, .string { data := #[115, 99, 97, 110, 32, 49, 32, 45, 32, 45] }, .string { data := #[99, 111, 109, 109, 105, 116] }, .string { data := #[99, 111, 109, 109, 105, 116, 32, 49, 32] }, .string { data := #[109, 105, 103, 114, 97, 116, 101, 32, 48] }, .string { data := #[109, 105, 103, 114, 97, 116, 101, 32, 51] }, .string { data := #[109, 105, 103, 114, 97, 116, 101, 32, 50, 53, 56] }, .string { data := #[118, 97, 99, 117, 117, 109, 32, 49] }, .string { data := #[103, 101, 116, 32, 57, 57, 57, 57, 57, 57, 57, 57, 57, 57, 57, 57, 57, 57, 57, 57, 57, 57, 57, 57, 32, 54, 49] }, .string { data := #[98, 101, 103, 105, 110, 10] }, .string { data := #[120] }] 9)) := (Below.refl _ _).alloc (Nat.le_refl _) _
          have HL : Hid (RSl svc 1 (wr.alloc (.cells #[.string { data := #[] }, .string { data := #[32] }, .string { data := #[98, 101, 103, 105, 110, 32, 98, 101, 103, 105, 110] }, .string { data := #[66, 101, 103, 105, 110] }, .string { data := #[103, 101, 116] }, .string { data := #[103, 101, 116, 32, 49, 32, 54] }, .string { data := #[103, 101, 116, 32, 49, 32, 54, 66] }, .string { data := #[103, 101, 116, 32, 49, 32, 54, 103] }, .string { data := #[103, 101, 116, 32, 49, 32, 54, 49, 32, 54, 49] }, .string { data := #[103, 101, 116, 32, 32, 49, 32, 54, 49] }, .string { data := #[103, 101, 116, 32, 49, 32, 45, 45, 32] }, .string { data := #[103, 101, 116, 32, 49, 32, 45, 54, 49] }, .string { data := #[103, 101, 116, 32, 45, 48, 32, 54, 49] }, .string { data := #[103, 101, 116, 32, 43, 49, 32, 54, 49] }, .string { data := #[112, 117, 116, 32, 49, 32, 54, 49] }, .string { data := #[115, 99, 97, 110, 32, 49, 32, 45, 32, 45, 32, 45, 48] }, .string { data := #[115, 99, 97, 110, 32, 49, 32, 45, 32, 45] }, .string { data := #[99, 111, 109, 109, 105, 116] }, .string { data := #[99, 111, 109, 109, 105, 116, 32, 49, 32] }, .string { data := #[109, 105, 103, 114, 97, 116, 101, 32, 48] }, .string { data := #[109, 105, 103, 114, 97, 116, 101, 32, 51] }, .string { data := #[109, 105, 103, 114, 97, 116, 101, 32, 50, 53, 56] }, .string { data := #[118, 97, 99, 117, 117, 109, 32, 49] }, .string { data := #[103, 101, 116, 32, 57, 57, 57, 57, 57, 57, 57, 57, 57, 57, 57, 57, 57, 57, 57, 57, 57, 57, 57, 57, 32, 54, 49] }, .string { data := #[98, 101, 103, 105, 110, 10] }, .string { data := #[120] }] 9)) (some ⟨wr.heap.size, 0, none⟩) 26 npD) := Blk.rslL (enc := svc) (L := npD) svc_len (Blk.new _ _ 9)
          have HG := Lib.hid (HN.out.gl.later hby)
          have HB := Lib.hid (stepB HN.out.lo hby)
          clear hby
          go_upto_block 4 with (fail)
          clear d2 HN HBT HPB
          generalize (wr.alloc (.cells #[.string { data := #[] }, .string { data := #[32] }, .string { data := #[98, 101, 103, 105, 110, 32, 98, 101, 103, 105, 110] }, .string { data := #[66, 101, 103, 105, 110] }, .string { data := #[103, 101, 116] }, .string { data := #[103, 101, 116, 32, 49, 32, 54] }, .string { data := #[103, 101, 116, 32, 49, 32, 54, 66] }, .string { data := #[103, 101, 116, 32, 49, 32, 54, 103] }, .string { data := #[103, 101, 116, 32, 49, 32, 54, 49, 32, 54, 49] }, .string { data := #[103, 101, 116, 32, 32, 49, 32, 54, 49] }, .string { data := #[103, 101, 116, 32, 49, 32, 45, 45, 32] }, .string { data := #[103, 101, 116, 32, 49, 32, 45, 54, 49] }, .string { data := #[103, 101, 116, 32, 45, 48, 32, 54, 49] }, .string { data := #[103, 101, 116, 32, 43, 49, 32, 54, 49] }, .string { data := #[112, 117, 116, 32, 49, 32, 54, 49] }, .string { data := #[115, 99, 97, 110, 32, 49, 32, 45, 32, 45, 32, 45, 48] }, .string { data := #[115, 99, 97, 110, 32, 49, 32, 45, 32, 45] }, .string { data := #[99, 111, 109, 109, 105, 116] }, .string { data := #[99, 111, 109, 109, 105, 116, 32, 49, 32] }, .string { data := #[109, 105, 103, 114, 97, 116, 101, 32, 48] }, .string { data := #[109, 105, 103, 114, 97, 116, 101, 32, 51] }, .string { data := #[109, 105, 103, 114, 97, 116, 101, 32, 50, 53, 56] }, .string { data := #[118, 97, 99, 117, 117, 109, 32, 49] }, .string { data := #[103, 101, 116, 32, 57, 57, 57, 57, 57, 57, 57, 57, 57, 57, 57, 57, 57, 57, 57, 57, 57, 57, 57, 57, 32, 54, 49] }, .string { data := #[98, 101, 103, 105, 110, 10] }, .string { data := #[120] }] 9)) = w14 at *
          obtain ⟨pc, hpc⟩ : ∃ x, wr.heap.size = x := ⟨_, rfl⟩
          rw [hpc] at HL ⊢
          clear hpc
          go_wp2
          go_loopw [116] (fun i wr => ∃ (j : Nat), j ≤ 26 ∧ i = .int .i64 j ∧ Gl wr ∧ Below w.heap.size w wr ∧ RSl svc 1 wr (some ⟨pc, 0, none⟩) 26 npD) (fun i _ => 26 - (intOf i).toNat)
          case atStart => exact ⟨0, Nat.zero_le _, rfl, HG.out, HB.out, HL.out⟩
          case round =>
            obtain ⟨j, hj, rfl, hg, hb, hl⟩ := hrel
            clear HG HB HL
            have HG := Lib.hid hg
            have HB := Lib.hid hb
            have HL := Lib.hid hl
            clear hg hb hl
            by_cases hlt : j < 26
            · have d2 : decide ((j : Int) < 26) = true := decide_eq_true (by omega)
              have wk : IntKind.i64.wrap ((j : Int) + 1) = (j : Int) + 1 := IntWalk.i64_in _ (by omega)
              have i1 := idx25 pc 26 26 j (j : Int) rfl hlt
              have hrk : npD[j]? = some (npD[j]'(by show j < 26; exact hlt)) := List.getElem?_eq_getElem _
              have hok := List.all_eq_true.1 np_ok _ (List.mem_of_getElem? hrk)
              have t0 := sl_at HL.out hrk
              generalize npD[j]'(by show j < 26; exact hlt) = s at *
              simp only [Bool.and_eq_true, Bool.not_eq_true', decide_eq_true_eq] at hok
              have HPA := parse_any s wr (by omega) HG.out
              rw [parV_no hok.1] at HPA
              unfold clV cl0 emp at HPA
              simp only at HPA
              have HPB2 := Lib.hid HPA
              clear HPA hok hrk
              have HNQ : Hid (∀ V : World, (binOp .neq 24 (.agg #[.int .u8 0, .int .i64 0, .string { data := #[] }, .string { data := #[] }, .string { data := #[] }, .int .i64 0, .int .u8 0]) (.agg #[.int .u8 0, .int .i64 0, .string { data := #[] }, .string { data := #[] }, .string { data := #[] }, .int .i64 0, .int .u8 0])).run Tryd.prog V = .ok (.bool false) V) := Lib.hid (fun V => by
                have h := neq24 cl0 cl0 V
                rw [decide_eq_true rfl] at h
                exact h)
              go_wp2_with fail
              refine HPB2.out.mono ?_
              rintro e w15 ⟨rfl, hb⟩
              have hby : Below w15.heap.size w15 (w15.alloc (.cells #[.int .u8 0, .int .i64 0, .string { data := #[] }, .string { data := #[] }, .string { data := #[] }, .int .i64 0, .int .u8 0] 24)) := (Below.refl _ _).alloc (Nat.le_refl _) _
              have HY : Hid (Blk (w15.alloc (.cells #[.int .u8 0, .int .i64 0, .string { data := #[] }, .string { data := #[] }, .string { data := #[] }, .int .i64 0, .int .u8 0] 24)) w15.heap.size #[.int .u8 0, .int .i64 0, .string { data := #[] }, .string { data := #[] }, .string { data := #[] }, .int .i64 0, .int .u8 0] 24) := Blk.new _ _ _
              have HG2 := Lib.hid ((HG.out.later hb).later hby)
              have HB2 := Lib.hid (stepB (stepB HB.out hb) hby)
              have HL2 := Lib.hid ((HL.out.later hb).later hby)
              clear hb hby HPB2 t0 i1 HG HB HL
              go_upto_region 25 with (fail)
              generalize w15.alloc (.cells #[.int .u8 0, .int .i64 0, .string { data := #[] }, .string { data := #[] }, .string { data := #[] }, .int .i64 0, .int .u8 0] 24) = w16 at *
              obtain ⟨py, hpy⟩ : ∃ x, w15.heap.size = x := ⟨_, rfl⟩
              rw [hpy] at HY ⊢
              clear hpy
              have hbt : Tryd.prog.built 24 [] = some #[.int .u8 0, .int .i64 0, .string { data := #[] }, .string { data := #[] }, .string { data := #[] }, .int .i64 0, .int .u8 0] := by kernel_rfl
              have hnq := HNQ.out
              have y0 := HY.out.cell 0
              have y1 := HY.out.cell 1
              have y2 := HY.out.cell 2
              have y3 := HY.out.cell 3
              have y4 := HY.out.cell 4
              have y5 := HY.out.cell 5
              have y6 := HY.out.cell 6
              simp only [List.getElem?_toArray, List.getElem?_cons_zero, List.getElem?_cons_succ] at y0 y1 y2 y3 y4 y5 y6
              go_wp2
              go_roundw
              case rel => exact ⟨j + 1, by omega, by go_num, HG2.out, HB2.out, HL2.out⟩
              case measure => simp [intOf]; omega
            · have d2 : decide ((j : Int) < 26) = false := decide_eq_false (by omega)
              have hby : Below wr.heap.size wr (wr.alloc (.cells #[.string { data := #[] }, .string { data := #[48] }, .string { data := #[48, 32, 48] }, .string { data := #[48, 32, 50, 32, 45] }, .string { data := #[48, 32, 49, 32, 55] }, .string { data := #[48, 48, 32, 49, 32, 45] }, .string { data := #[48, 32, 49, 32, 45, 32, 54, 49] }, .string { data := #[48, 32, 49, 32, 45, 32, 54, 49, 32, 54, 50, 32, 54, 51] }, .string { data := #[48, 32, 49, 32, 45, 32, 32, 54, 49, 32, 54, 50] }, .string { data := #[48, 32, 48, 32, 45, 32] }, .string { data := #[97, 32, 48, 32, 45] }] 9)) := (Below.refl _ _).alloc (Nat.le_refl _) _
              have HLD : Hid (RSl svc 1 (wr.alloc (.cells #[.string { data := #[] }, .string { data := #[48] }, .string { data := #[48, 32, 48] }, .string { data := #[48, 32, 50, 32, 45] }, .string { data := #[48, 32, 49, 32, 55] }, .string { data := #[48, 48, 32, 49, 32, 45] }, .string { data := #[48, 32, 49, 32, 45, 32, 54, 49] }, .string { data := #[48, 32, 49, 32, 45, 32, 54, 49, 32, 54, 50, 32, 54, 51] }, .string { data := #[48, 32, 49, 32, 45, 32, 32, 54, 49, 32, 54, 50] }, .string { data := #[48, 32, 48, 32, 45, 32] }, .string { data := #[97, 32, 48, 32, 45] }] 9)) (some ⟨wr.heap.size, 0, none⟩) 11 naD) := Blk.rslL (enc := svc) (L := naD) svc_len (Blk.new _ _ 9)
              replace HG := Lib.hid (HG.out.later hby)
              replace HB := Lib.hid (stepB HB.out hby)
              clear hby HL
              go_upto_block 6 with (fail)
              clear d2
              generalize (wr.alloc (.cells #[.string { data := #[] }, .string { data := #[48] }, .string { data := #[48, 32, 48] }, .string { data := #[48, 32, 50, 32, 45] }, .string { data := #[48, 32, 49, 32, 55] }, .string { data := #[48, 48, 32, 49, 32, 45] }, .string { data := #[48, 32, 49, 32, 45, 32, 54, 49] }, .string { data := #[48, 32, 49, 32, 45, 32, 54, 49, 32, 54, 50, 32, 54, 51] }, .string { data := #[48, 32, 49, 32, 45, 32, 32, 54, 49, 32, 54, 50] }, .string { data := #[48, 32, 48, 32, 45, 32] }, .string { data := #[97, 32, 48, 32, 45] }] 9)) = w17 at *
              obtain ⟨pd, hpd⟩ : ∃ x, wr.heap.size = x := ⟨_, rfl⟩
              rw [hpd] at HLD ⊢
              clear hpd
              go_wp2
              go_loopw [135] (fun i wr => ∃ (j : Nat), j ≤ 11 ∧ i = .int .i64 j ∧ Gl wr ∧ Below w.heap.size w wr ∧ RSl svc 1 wr (some ⟨pd, 0, none⟩) 11 naD) (fun i _ => 11 - (intOf i).toNat)
              case atStart => exact ⟨0, Nat.zero_le _, rfl, HG.out, HB.out, HLD.out⟩
              case round =>
                obtain ⟨j, hj, rfl, hg, hb, hl⟩ := hrel
                clear HG HB HLD
                have HG := Lib.hid hg
                have HB := Lib.hid hb
                have HL := Lib.hid hl
                clear hg hb hl
                by_cases hlt : j < 11
                · have d2 : decide ((j : Int) < 11) = true := decide_eq_true (by omega)
                  have wk : IntKind.i64.wrap ((j : Int) + 1) = (j : Int) + 1 := IntWalk.i64_in _ (by omega)
                  have i1 := idx25 pd 11 11 j (j : Int) rfl hlt
                  have hrk : naD[j]? = some (naD[j]'(by show j < 11; exact hlt)) := List.getElem?_eq_getElem _
                  have hok := List.all_eq_true.1 na_ok _ (List.mem_of_getElem? hrk)
                  have t0 := sl_at HL.out hrk
                  generalize naD[j]'(by show j < 11; exact hlt) = s at *
                  simp only [Bool.and_eq_true, Bool.not_eq_true', decide_eq_true_eq] at hok
                  have HRE := Lib.hid (read_any s wr (by omega) HG.out)
                  have HAS : Hid (asP s = as0 ∧ okA s = false) := Lib.hid ⟨by unfold asP; rw [hok.1]; rfl, hok.1⟩
                  clear hok hrk
                  go_wp2_with fail
                  refine HRE.out.mono ?_
                  rintro e w18 ⟨v, rfl, hrow, hb⟩
                  rw [HAS.out.1] at hrow ⊢
                  rw [HAS.out.2]
                  have hrow2 : ROwn pvc 2 w18 wr.heap.size 42 v 0 [] := hrow
                  obtain ⟨A, c, hv, _, _⟩ := hrow2.sl
                  subst hv
                  unfold asV as0 emp
                  simp only [Bool.false_eq_true, if_false]
                  have hby : Below w18.heap.size w18 (w18.alloc (.cells #[.int .i64 0, .bool false, .string { data := #[] }, .slice A 0 c] 37)) := (Below.refl _ _).alloc (Nat.le_refl _) _
                  have HY : Hid (Blk (w18.alloc (.cells #[.int .i64 0, .bool false, .string { data := #[] }, .slice A 0 c] 37)) w18.heap.size #[.int .i64 0, .bool false, .string { data := #[] }, .slice A 0 c] 37) := Blk.new _ _ _
                  have HG2 := Lib.hid ((HG.out.later hb).later hby)
                  have HB2 := Lib.hid (stepB (stepB HB.out hb) hby)
                  have HL2 := Lib.hid ((HL.out.later hb).later hby)
                  clear hb hby HRE HAS hrow hrow2 t0 i1 HG HB HL
                  go_upto_region 32 with (fail)
                  generalize w18.alloc (.cells #[.int .i64 0, .bool false, .string { data := #[] }, .slice A 0 c] 37) = w19 at *
                  obtain ⟨py, hpy⟩ : ∃ x, w18.heap.size = x := ⟨_, rfl⟩
                  rw [hpy] at HY ⊢
                  clear hpy
                  have hbt : Tryd.prog.built 37 [] = some #[.int .i64 0, .bool false, .string { data := #[] }, .slice none 0 0] := by kernel_rfl
                  have HCA : Hid (Calls Tryd.prog 18 #[.agg #[.int .i64 0, .bool false, .string { data := #[] }, .slice A 0 c], .agg #[.int .i64 0, .bool false, .string { data := #[] }, .slice none 0 0]] w19 fun e w' => e = .returned (.bool true) ∧ Below w19.heap.size w19 w') := Lib.hid (by
                    have h := answers_any 0 0 false false { data := #[] } { data := #[] } A none 0 0 c 0 [] [] w19 (RSl.nil _ _) (RSl.nil _ _) (by decide)
                    unfold Bl at h
                    rw [decide_eq_true rfl] at h
                    exact h)
                  have y0 := HY.out.cell 0
                  have y1 := HY.out.cell 1
                  have y2 := HY.out.cell 2
                  have y3 := HY.out.cell 3
                  simp only [List.getElem?_toArray, List.getElem?_cons_zero, List.getElem?_cons_succ] at y0 y1 y2 y3
                  go_wp2_with fail
                  refine HCA.out.mono ?_
                  rintro e w20 ⟨rfl, hb⟩
                  have HG3 := Lib.hid (HG2.out.later hb)
                  have HB3 := Lib.hid (stepB HB2.out hb)
                  have HL3 := Lib.hid (HL2.out.later hb)
                  clear hb HCA HG2 HB2 HL2 y0 y1 y2 y3 hbt
                  go_wp2
                  go_roundw
                  case rel => exact ⟨j + 1, by omega, by go_num, HG3.out, HB3.out, HL3.out⟩
                  case measure => simp [intOf]; omega
                · have d2 : decide ((j : Int) < 11) = false := decide_eq_false (by omega)
                  have HRE := Lib.hid (read_any { data := #[45, 55, 32, 48, 32, 45, 32, 54, 49, 32, 45, 32, 45, 32, 54, 50] } wr (by decide) HG.out)
                  clear HL
                  go_wp2_with fail
                  refine HRE.out.mono ?_
                  rintro e w18 ⟨v, rfl, hrow, hb⟩
                  rw [last_ok.2] at hrow ⊢
                  rw [last_ok.1]
                  have hrow2 : ROwn pvc 2 w18 wr.heap.size 42 v 2 [({ data := #[97] }, emp), (emp, { data := #[98] })] := hrow
                  obtain ⟨A, c, hv, _, _⟩ := hrow2.sl
                  subst hv
                  unfold asV emp
                  simp only [if_true]
                  have hby : Below w18.heap.size w18 (w18.alloc (.cells #[.int .i64 (-7), .bool false, .string { data := #[] }, .slice A 2 c] 37)) := (Below.refl _ _).alloc (Nat.le_refl _) _
                  have HY : Hid (Blk (w18.alloc (.cells #[.int .i64 (-7), .bool false, .string { data := #[] }, .slice A 2 c] 37)) w18.heap.size #[.int .i64 (-7), .bool false, .string { data := #[] }, .slice A 2 c] 37) := Blk.new _ _ _
                  have HG2 := Lib.hid ((HG.out.later hb).later hby)
                  have HB2 := Lib.hid (stepB (stepB HB.out hb) hby)
                  obtain ⟨g, off, hA, _, hc⟩ := ((hrow2.rsl pvc_len).later hby).2 (by decide)
                  subst hA
                  have p0 := hc 0 _ rfl 0 (by decide)
                  have p1 := hc 1 _ rfl 1 (by decide)
                  simp only [pvc, emp, List.getElem?_cons_zero, List.getElem?_cons_succ, Nat.zero_mul, Nat.one_mul, Nat.add_zero] at p0 p1
                  have p2 := p1
                  rw [Nat.add_assoc] at p2
                  have i0 := idx35 g off 2 c 0 0 rfl (by decide)
                  have i1 := idx35 g off 2 c 1 1 rfl (by decide)
                  simp only [Nat.zero_mul, Nat.one_mul, Nat.add_zero] at i0 i1
                  clear hb hby HRE hrow hrow2 HG HB d2 hc
                  go_upto_region 36 with (fail)
                  generalize w18.alloc (.cells _ 37) = w19 at *
                  obtain ⟨py, hpy⟩ : ∃ x, w18.heap.size = x := ⟨_, rfl⟩
                  rw [hpy] at HY ⊢
                  clear hpy
                  have y0 := HY.out.cell 0
                  have y1 := HY.out.cell 1
                  have y2 := HY.out.cell 2
                  have y3 := HY.out.cell 3
                  simp only [List.getElem?_toArray, List.getElem?_cons_zero, List.getElem?_cons_succ] at y0 y1 y2 y3
                  go_wp2_with fail
                  refine (fits19 w19 HG2.out).mono ?_
                  rintro e w20 ⟨rfl, hb⟩
                  have HB3 := Lib.hid (stepB HB2.out hb)
                  clear hb p0 p1 p2 i0 i1 y0 y1 y2 y3 HY
                  go_wp2
                  go_ret
                  exact ⟨rfl, HB3.out⟩
end Go.Proofs.YtkgdmdcnhbaidaaDoor
