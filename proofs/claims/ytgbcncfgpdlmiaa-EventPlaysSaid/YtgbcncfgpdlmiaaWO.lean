/- Without, of any places. -/
import Derived.Test.YtgbcncfgpdlmiaaCM
namespace Go.Proofs.Ytgbcncfgpdlmiaa
open Go.ChangeShapes Go.WideShapes Go.ChangeAt Go.RowKit Go.Maps
set_option linter.unusedVariables false
set_option linter.unusedSimpArgs false

open Go.Sort Go.Lib Go.Shelf
theorem pl_arr (L : List Pl) (i : Nat) (hi : i < L.length) : (L.toArray)[i]! = L[i] := by
  rw [getElem!_pos _ i (by simpa using hi), List.getElem_toArray]
theorem pl_holds {W : World} {B g cap : Nat} {L : List Pl} (h : ROwn plc 2 W B 45 (.slice (some ⟨g, 0, none⟩) L.length cap) L.length L) : HoldsK plc 2 W g 0 L.toArray := fun j hj => by
  have hO := h.2
  have hj2 : j < L.length * 2 := by simpa using hj
  refine ⟨?_, hO.frozenAt _⟩
  rw [Nat.zero_add, hO.cellAt j hj2, get_flatK plc 2 _ j (by simpa using hj2)]
  have hi : j / 2 < L.length := by omega
  rw [pl_arr L _ hi]
  have hx : L[j / 2]? = some (L[j / 2]'hi) := List.getElem?_eq_getElem hi
  rcases Nat.mod_two_eq_zero_or_one j with h0 | h0
  · have := rv_at plc_len L (j / 2) 0 _ hx (by decide)
    rw [show j / 2 * 2 + 0 = j by omega] at this
    rw [this, h0]; rfl
  · have := rv_at plc_len L (j / 2) 1 _ hx (by decide)
    rw [show j / 2 * 2 + 1 = j by omega] at this
    rw [this, h0]; rfl
theorem holds_ph {W : World} {g : Nat} {L : List Pl} (h : HoldsK plc 2 W g 0 L.toArray) (hg : g < W.heap.size) : PH W g 0 L := ⟨hg, fun j p hp => by
  obtain ⟨hj, e⟩ := List.getElem?_eq_some_iff.1 hp
  have h0 := h.cell (i := j) (c := 0) (by simpa using hj) (by decide)
  have h1 := h.cell (i := j) (c := 1) (by simpa using hj) (by decide)
  rw [pl_arr L j hj, e] at h0 h1
  exact ⟨⟨h0.1, h1.1⟩, h0.2, h1.2⟩⟩
/-- not falling -/
def Nd (D : List Pl) : Prop := D.Pairwise (fun x y => ¬ cmpP y x < 0)
def WoEnd (P : List Pl) (L : List Ev) (w : World) (e : Ending) (w' : World) : Prop := ∃ E, Ris E ∧ (∀ x, x ∈ E ↔ x ∈ P) ∧ OwdEnd (woL E L) w e w'
theorem wo_end {P D : List Pl} {L : List Ev} {w w' : World} {e : Ending} (hp : D.Perm P) (hs : Nd D) (h : OwdEnd (woL (dd D D.length) L) w e w') : WoEnd P L w e w' :=
  ⟨_, dd_ris hs _, fun x => by rw [dd_mem, List.take_of_length_le (Nat.le_refl _)]; exact hp.mem_iff, h⟩
set_option maxRecDepth 100000 in
set_option maxHeartbeats 4000000 in
theorem without_any (A : Option Addr) (n c : Nat) (a : Addr) (gc : Nat) (P : List Pl) (Rs : List RE) (w : World) (h : EvS w A n Rs) (hn : n ≤ 100000) (hp : ∀ r ∈ Rs, r.2.2.1 ≤ 100000) (hcr : ∀ r ∈ Rs, -9223372036854775808 ≤ r.1.2.2.1 ∧ r.1.2.2.1 ≤ 9223372036854775807) (hz : RSl plc 2 w (some a) P.length P) (hP : P.length ≤ 1000) (hP0 : 0 < P.length) : Calls Try.prog 20 #[.slice A n c, .slice (some a) P.length gc] w (WoEnd P (Rs.map Prod.fst) w) := by
  have HZ := Lib.hid hz
  have HS := Lib.hid h
  have HN := Lib.hid hp
  have HCR := Lib.hid hcr
  clear h hp hcr hz
  go_enter Try.func20, Try.ntmps20
  go_wp2_with fail
  refine (clonep_any a P.length gc P w HZ.out (by omega)).mono ?_
  rintro e w1 ⟨A1, c1, rfl, ho, hb⟩
  obtain ⟨A9, c9, e9, hc1, hnil⟩ := ho.sl
  cases e9
  obtain ⟨g, rfl, hg⟩ : ∃ g, A1 = some ⟨g, 0, none⟩ ∧ w.heap.size ≤ g := by
    rcases ho.2.2 with ⟨h1, h2⟩ | ⟨g, cap, cur, h1, h2, _⟩
    · omega
    · cases h1; exact ⟨g, rfl, h2⟩
  have hgl : g < w1.heap.size := (ho.lt g rfl).2
  obtain ⟨pl, hpl⟩ : ∃ pl, w1.heap.size = pl := ⟨_, rfl⟩
  have hbx : Below w1.heap.size w1 (w1.alloc (.cells #[.slice (some ⟨g, 0, none⟩) P.length c1] 46)) := (Below.refl _ _).alloc (Nat.le_refl _) _
  have HH := Lib.hid (pl_holds (ho.later hbx))
  have HB := Lib.hid (stepB hb hbx)
  have HK : Hid (Blk (w1.alloc (.cells #[.slice (some ⟨g, 0, none⟩) P.length c1] 46)) pl #[.slice (some ⟨g, 0, none⟩) P.length c1] 46) := Blk.new2 _ _ _ hpl
  have HGL : Hid (g < (w1.alloc (.cells #[.slice (some ⟨g, 0, none⟩) P.length c1] 46)).heap.size) := Nat.lt_of_lt_of_le hgl hbx.size
  have HGP : Hid (g ≠ pl) := by show _ ≠ _; omega
  have HG : Hid (w.heap.size ≤ g) := hg
  have HPL : Hid (w.heap.size ≤ pl) := by show _ ≤ _; omega
  clear ho hb hbx hnil hg hgl
  go_wp2_with fail
  clear hpl
  refine (sort_any g c1 P _ HH.out HGL.out hP).mono ?_
  rintro e w2 ⟨rfl, D, hDl, hDp, hDs, hDh, hDg⟩
  have HD := Lib.hid hDp
  have HDS : Hid (Nd D) := hDs
  have HPH := Lib.hid (holds_ph hDh (Nat.lt_of_lt_of_le HGL.out hDg.size))
  have HK2 := Lib.hid (HK.out.grown hDg (fun e => HGP.out (Option.some.inj e).symm))
  have HB2 := Lib.hid (HB.out.grown hDg HB.out.size (fun j e => by cases e; exact HG.out))
  have HDL := Lib.hid hDl
  clear hDp hDs hDh hDg hDl HH HB HK HGL
  have q0 := HK2.out.cell 0
  simp only [List.getElem?_toArray, List.getElem?_cons_zero] at q0
  have HCP := Lib.hid (compact_any g 0 c1 D w2 HPH.out (by rw [HDL.out]; exact hc1) (by rw [HDL.out]; omega) (by rw [HDL.out]; exact hP0))
  rw [HDL.out] at HCP
  go_wp2_with fail
  refine HCP.out.mono ?_
  rintro e w3 ⟨rfl, hph, hgr⟩
  have HP3 := Lib.hid hph
  have HK3 := Lib.hid (HK2.out.grown hgr (fun e => HGP.out (Option.some.inj e).symm))
  have HB3 := Lib.hid (HB2.out.grown hgr HB2.out.size (fun j e => by cases e; exact HG.out))
  have q3 := HK3.out.cell 0
  have f3 := HK3.out.frozen 0
  simp only [List.getElem?_toArray, List.getElem?_cons_zero] at q3
  clear hph hgr HK2 HB2 HCP q0 HPH
  have HK4 : Hid (Blk (w3.setCell ⟨pl, 0, none⟩ (.slice (some ⟨g, 0, none⟩) (dd D D.length).length c1)) pl #[.slice (some ⟨g, 0, none⟩) (dd D D.length).length c1] 46) := HK3.out.set _
  have HR4 : Hid (RSl plc 2 (w3.setCell ⟨pl, 0, none⟩ (.slice (some ⟨g, 0, none⟩) (dd D D.length).length c1)) (some ⟨g, 0, none⟩) (dd D D.length).length (dd D D.length)) := HP3.out.rsl.keep (by simp) (fun k e => by
    cases e
    exact (grown_set w3 pl 0 _).block g HP3.out.lt (fun e2 => HGP.out (Option.some.inj e2)))
  have HB4 : Hid (Below w.heap.size w (w3.setCell ⟨pl, 0, none⟩ (.slice (some ⟨g, 0, none⟩) (dd D D.length).length c1))) := Below.setCell (p := ⟨pl, 0, none⟩) HB3.out HPL.out _
  have HW := Lib.hid (owned44 A n c Rs _ (some ⟨g, 0, none⟩) c1 (dd D D.length) pl (ris_srt (dd_ris HDS.out _)) HR4.out (by have := dd_len D D.length; rw [HDL.out] at this; rw [HDL.out]; omega) HK4.out HCR.out (HS.out.later HB4.out) hn HN.out)
  go_wp2_with fail
  refine HW.out.mono ?_
  rintro e w5 ⟨A3, c3, n3, Rs3, rfl, h1, h2, h3⟩
  have HE : Hid (OwdEnd (woL (dd D D.length) (Rs.map Prod.fst)) w (.returned (.slice A3 n3 c3)) w5) := ⟨A3, c3, n3, Rs3, rfl, h1.base HB4.out.size, h2, stepB HB4.out h3⟩
  clear h1 h2 h3
  go_wp2
  go_ret
  exact wo_end HD.out HDS.out HE.out
/-- rising places are known by what is among them -/
theorem ris_eq : ∀ {P Q : List Pl}, Ris P → Ris Q → (∀ x, x ∈ P ↔ x ∈ Q) → P = Q
  | [], [], _, _, _ => rfl
  | [], y :: Q, _, _, h => absurd ((h y).2 (List.mem_cons_self ..)) (by simp)
  | x :: P, [], _, _, h => absurd ((h x).1 (List.mem_cons_self ..)) (by simp)
  | x :: P, y :: Q, hp, hq, h => by
    have h1 := List.pairwise_cons.1 hp
    have h2 := List.pairwise_cons.1 hq
    have hxy : x = y := by
      rcases List.mem_cons.1 ((h x).1 (List.mem_cons_self ..)) with e | e
      · exact e
      · rcases List.mem_cons.1 ((h y).2 (List.mem_cons_self ..)) with e2 | e2
        · exact e2.symm
        · have h3 := h2.1 x e
          have h4 := h1.1 y e2
          rw [cmpP_lt] at h3 h4
          omega
    subst hxy
    congr 1
    refine ris_eq h1.2 h2.2 fun z => ⟨fun hz => ?_, fun hz => ?_⟩
    · rcases List.mem_cons.1 ((h z).1 (List.mem_cons_of_mem _ hz)) with e | e
      · subst e
        have := h1.1 z hz
        rw [cmpP_lt] at this
        omega
      · exact e
    · rcases List.mem_cons.1 ((h z).2 (List.mem_cons_of_mem _ hz)) with e | e
      · subst e
        have := h2.1 z hz
        rw [cmpP_lt] at this
        omega
      · exact e
end Go.Proofs.Ytgbcncfgpdlmiaa
