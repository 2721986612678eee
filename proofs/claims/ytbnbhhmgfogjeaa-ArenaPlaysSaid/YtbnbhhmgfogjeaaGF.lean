/- The first page that has room, or one more. -/
import Derived.Test.YtbnbhhmgfogjeaaGE
namespace Go.Proofs.Ytbnbhhmgfogjeaa
open Go.ChangeShapes Go.WideShapes Go.ChangeAt Go.RowKit Go.Maps
set_option linter.unusedVariables false
set_option linter.unusedSimpArgs false

section
variable {W : World} {B a g low s : Nat} {v : Value} {Ps : List Pe} {G : List gn.Ct}
theorem Ar.c (h : Ar W B a g v low s Ps G) : W.cell? ⟨a, 0, none⟩ = some (.int .i64 (s : Int)) ∧ W.cell? ⟨a, 1, none⟩ = some v ∧ W.cell? ⟨a, 2, none⟩ = some (.int .i64 (low : Int)) ∧ W.cell? ⟨a, 3, none⟩ = some (.map (some g)) := ⟨h.blk.cell 0, h.blk.cell 1, h.blk.cell 2, h.blk.cell 3⟩
theorem idx68 (g m c k : Nat) (i : Int) (hi : i = (k : Int)) (h : k < m) (W : World) : (Instr.indexAt 68 (.slice (some ⟨g, 0, none⟩) m c) (.int .i64 i)).run Try.prog W = .ok (.pointer (some ⟨g, k, none⟩)) W := by
  subst hi
  have h1 : (0 : Int) ≤ (k : Int) ∧ (k : Int) < (m : Int) := by omega
  go_simp
theorem Ar.at_ (h : Ar W B a g v low s Ps G) {i : Nat} (hi : i < Ps.length) : ∃ gr c, v = .slice (some ⟨gr, 0, none⟩) Ps.length c ∧ gr < W.heap.size ∧ W.cell? ⟨gr, i, none⟩ = some (.pointer (some ⟨(Ps[i]).1, 0, none⟩)) := by
  obtain ⟨gr, c, e, h1, h2, _⟩ := ow_at h.row (k := i) (x := (Ps[i]).1) (by rw [List.getElem?_map, List.getElem?_eq_getElem hi]; rfl)
  exact ⟨gr, c, e, h1, h2⟩
abbrev SR (w : World) (a : Nat) (v : Value) (l gr p : Nat) (W : World) : Prop := Below w.heap.size w W ∧ W.cell? ⟨a, 1, none⟩ = some v ∧ W.cell? ⟨a, 2, none⟩ = some (.int .i64 (l : Int)) ∧ W.cell? ⟨gr, l, none⟩ = some (.pointer (some ⟨p, 0, none⟩))
theorem SR.later {w W W' : World} {a l gr p : Nat} {v : Value} (h : SR w a v l gr p W) (hb : Below W.heap.size W W') : SR w a v l gr p W' :=
  ⟨stepB h.1 hb, (hb.cell (p := ⟨a, 1, none⟩) (lt_of_cell h.2.1)).trans h.2.1, (hb.cell (p := ⟨a, 2, none⟩) (lt_of_cell h.2.2.1)).trans h.2.2.1, (hb.cell (p := ⟨gr, l, none⟩) (lt_of_cell h.2.2.2)).trans h.2.2.2⟩
def lowOf (a : Nat) (W : World) : Nat := match W.cell? ⟨a, 2, none⟩ with | some (.int _ n) => n.toNat | _ => 0
theorem lowOf_is {a l : Nat} {W : World} (h : W.cell? ⟨a, 2, none⟩ = some (.int .i64 (l : Int))) : lowOf a W = l := by unfold lowOf; rw [h]; simp
theorem Ar.lowOf (h : Ar W B a g v low s Ps G) : lowOf a W = low := lowOf_is h.c.2.2.1
end
/-- what is there behind room -/
def RoomEnd (B a g low s : Nat) (v : Value) (Ps : List Pe) (G : List gn.Ct) (w : World) (e : Ending) (w' : World) : Prop :=
  ∃ r v' Ps', e = .returned (.bool r) ∧ Ar w' B a g v' (lowL s low (Ps.map (fun x => x.2.2))) s Ps' G ∧ FrS w w' (ArSet a g v Ps) ∧ Nw w v v' ∧
    ((r = true ∧ lowL s low (Ps.map (fun x => x.2.2)) < Ps.length ∧ Ps' = Ps) ∨ (r = false ∧ lowL s low (Ps.map (fun x => x.2.2)) = Ps.length ∧ Ps.length = 4096 ∧ Ps' = Ps) ∨
      (r = true ∧ lowL s low (Ps.map (fun x => x.2.2)) = Ps.length ∧ Ps.length < 4096 ∧ ∃ p b, Ps' = Ps ++ [(p, b, newP)] ∧ w.heap.size ≤ p ∧ w.heap.size ≤ b))
set_option maxRecDepth 100000 in
set_option maxHeartbeats 8000000 in
theorem room_any4 (B a g low s : Nat) (v : Value) (Ps : List Pe) (G : List gn.Ct) (w : World) (h : Ar w B a g v low s Ps G) (h2 : 2 ≤ s) (h4 : s ≤ 4096) (hl : low ≤ Ps.length) (hn : Ps.length ≤ 4096) : Calls Try.prog 35 #[.pointer (some ⟨a, 0, none⟩)] w (RoomEnd B a g low s v Ps G w) := by
  obtain ⟨L, hL⟩ : ∃ L, Ps.map (fun x => x.2.2) = L := ⟨_, rfl⟩
  have HL := Lib.hid hL
  have HLL : Hid (L.length = Ps.length) := by show _ = _; rw [← hL, List.length_map]
  have H := Lib.hid h
  clear hL
  go_enter Try.func35, Try.ntmps35
  go_wp2
  go_loopw [] (fun wr => ∃ l : Nat, l ≤ Ps.length ∧ Ar wr B a g v l s Ps G ∧ lowL s l L = lowL s low L ∧ FrS w wr (ArSet a g v Ps)) (fun wr => Ps.length - lowOf a wr)
  case atStart => exact ⟨low, hl, h, rfl, FrS.of_below (Below.refl _ _)⟩
  case round =>
    obtain ⟨l, hl2, hA, he, hf⟩ := hrel
    obtain ⟨w1, rfl⟩ : ∃ w1 : World, w1 = wr := ⟨_, rfl⟩
    have HA := Lib.hid hA
    have HE := Lib.hid he
    have HF := Lib.hid hf
    clear h he hf hl
    by_cases hlt : l < Ps.length
    · have d1 : decide ((l : Int) < (Ps.length : Int)) = true := decide_eq_true (by omega)
      have d1' : decide (l < Ps.length) = true := decide_eq_true (by omega)
      obtain ⟨gr, c, hv, hgr, hc⟩ := hA.at_ hlt
      subst hv
      have i5 := idx68 gr Ps.length c l (l : Int) rfl hlt
      have K0 : Hid (SR w1 a (.slice (some ⟨gr, 0, none⟩) Ps.length c) l gr (Ps[l]).1 w1) := ⟨Below.refl _ _, hA.c.2.1, hA.c.2.2.1, hc⟩
      have HP := Lib.hid (hA.pgs _ (List.getElem_mem hlt))
      have hPL : L[l]'(by rw [HLL.out]; exact hlt) = (Ps[l]).2.2 := by
        have h6 : L = Ps.map (fun x => x.2.2) := HL.out.symm
        subst h6
        simp
      obtain ⟨pp, hpp⟩ : ∃ pp, (Ps[l]).1 = pp := ⟨_, rfl⟩
      rw [hpp] at K0 HP
      have HPP := Lib.hid hpp
      have HPL := Lib.hid hPL
      by_cases hfl : fullP s (Ps[l]).2.2 = true
      · have hfull : (Ps[l]).2.2.2.1.length = 4096 / s := of_decide_eq_true hfl
        have KR : Hid (∀ W, SR w1 a (.slice (some ⟨gr, 0, none⟩) Ps.length c) l gr pp W → Calls Try.prog 57 #[.pointer (some ⟨pp, 0, none⟩)] W fun e w' => e = .returned (.int .i64 0) ∧ Below W.heap.size W w') := fun W hW => by
          refine (room_pg _ _ _ _ _ _ _ _ W (HP.out.later hW.1) h4).mono (fun e w' h => ⟨?_, h.2⟩)
          rw [h.1, hfull, Int.sub_self]
        have HST : Hid (lowL s (l + 1) L = lowL s low L) := by
          show _ = _
          rw [lowL_step (by rw [HLL.out]; exact hlt) (by rw [HPL.out]; exact hfl)]; exact HE.out
        clear hA hc hPL hpp hfl hfull HPP
        go_upto_region 1 with (fail)
        go_region_held3 (SR w1 a (.slice (some ⟨gr, 0, none⟩) Ps.length c) l gr pp) (first | assumption | exact K0.out | exact SR.later (by assumption) (by assumption) | exact SR.later (by assumption) (below_drewN (Below.refl _ _) _)) (first
          | (go_at_call 57; refine (KR.out _ (by assumption)).mono ?_; rintro e w9 ⟨rfl, hb⟩))
        rename SR _ _ _ _ _ _ _ => hS
        have HB9 : Hid (Below w1.heap.size w1 w9) := Lib.hid hS.1
        clear hS
        have HA9 := Lib.hid (HA.out.later HB9.out)
        have c2 := HA9.out.c.2.2.1
        have f2 := HA9.out.blk.frozen 2
        have wl : IntKind.i64.wrap ((l : Int) + 1) = (l : Int) + 1 := IntWalk.i64_in _ (by omega)
        have HF9 := Lib.hid (HF.out.trans (S' := ArSet a g (.slice (some ⟨gr, 0, none⟩) Ps.length c) Ps) (FrS.of_below HB9.out) (fun i h => .inl h))
        have HFX := Lib.hid (HF9.out.trans (HA9.out.frLow (l + 1)) (fun i h => .inl h))
        have HAX := Lib.hid (HA9.out.setLow (l + 1))
        have HL0 := Lib.hid HA.out.lowOf
        have HL1 := Lib.hid HAX.out.lowOf
        clear d1 d1' i5 K0 KR
        go_wp2
        go_roundw
        case rel => exact ⟨l + 1, by omega, by first | exact HAX.out | (have := HAX.out; simpa using this), HST.out, by first | exact HFX.out | (have := HFX.out; simpa using this)⟩
        case measure =>
          have e1 := HL0.out
          have e2 := HL1.out
          simp only [Int.natCast_add, Int.natCast_one] at e1 e2 ⊢
          omega
      · have hfl : fullP s (Ps[l]).2.2 = false := by simpa using hfl
        have hnf : (Ps[l]).2.2.2.1.length ≠ 4096 / s := of_decide_eq_false hfl
        obtain ⟨r, hr⟩ : ∃ r : Int, ((4096 / s : Nat) : Int) - ((Ps[l]).2.2.2.1.length : Nat) = r := ⟨_, rfl⟩
        have hr0 : (r == 0) = false := by rw [beq_eq_false_iff_ne, ← hr]; omega
        have HRR := Lib.hid hr
        have KR : Hid (∀ W, SR w1 a (.slice (some ⟨gr, 0, none⟩) Ps.length c) l gr pp W → Calls Try.prog 57 #[.pointer (some ⟨pp, 0, none⟩)] W fun e w' => e = .returned (.int .i64 r) ∧ Below W.heap.size W w') := fun W hW => by
          refine (room_pg _ _ _ _ _ _ _ _ W (HP.out.later hW.1) h4).mono (fun e w' h => ⟨?_, h.2⟩)
          rw [h.1, HRR.out]
        have HST : Hid (lowL s low L = l) := by
          show _ = _
          rw [← HE.out, lowL_stop (by rw [HLL.out]; exact hlt) (by rw [HPL.out]; exact hfl)]
        clear hA hc hPL hpp hfl hnf HPP hr
        go_upto_region 1 with (fail)
        go_region_held3 (SR w1 a (.slice (some ⟨gr, 0, none⟩) Ps.length c) l gr pp) (first | assumption | exact K0.out | exact SR.later (by assumption) (by assumption) | exact SR.later (by assumption) (below_drewN (Below.refl _ _) _)) (first
          | (go_at_call 57; refine (KR.out _ (by assumption)).mono ?_; rintro e w9 ⟨rfl, hb⟩))
        rename SR _ _ _ _ _ _ _ => hS
        have HB9 : Hid (Below w1.heap.size w1 w9) := Lib.hid hS.1
        clear hS
        have HA9 := Lib.hid (HA.out.later HB9.out)
        have HF9 := Lib.hid (HF.out.trans (S' := ArSet a g (.slice (some ⟨gr, 0, none⟩) Ps.length c) Ps) (FrS.of_below HB9.out) (fun i h => .inl h))
        clear i5 K0 KR hr0
        have e1 : ∀ n, (w9.drewN n).cell? ⟨a, 1, none⟩ = some (.slice (some ⟨gr, 0, none⟩) Ps.length c) := fun n => (HA9.out.later (below_drewN (Below.refl _ _) n)).c.2.1
        have e2 : ∀ n, (w9.drewN n).cell? ⟨a, 2, none⟩ = some (.int .i64 (l : Int)) := fun n => (HA9.out.later (below_drewN (Below.refl _ _) n)).c.2.2.1
        have e3 := HA9.out.c.2.1
        have e4 := HA9.out.c.2.2.1
        go_upto_region 3 with (fail)
        go_quiet (fail)
        have HAX := Lib.hid (HA9.out.later (below_drewN (Below.refl _ _) nq))
        have HFX := Lib.hid (HF9.out.trans (S' := ArSet a g (.slice (some ⟨gr, 0, none⟩) Ps.length c) Ps) (FrS.of_below (below_drewN (Below.refl _ _) nq)) (fun i h => .inl h))
        clear e1 e2 e3 e4
        go_wp2
        go_ret
        exact ⟨true, _, Ps, rfl, by rw [HL.out, HST.out]; exact HAX.out, HFX.out, Nw.refl, .inl ⟨rfl, by rw [HL.out, HST.out]; exact hlt, rfl⟩⟩
    · obtain rfl : l = Ps.length := by omega
      have d1 : decide ((Ps.length : Int) < (Ps.length : Int)) = false := decide_eq_false (by omega)
      have d1' : decide (Ps.length < Ps.length) = false := decide_eq_false (by omega)
      have HST : Hid (lowL s low L = Ps.length) := by
        show _ = _
        rw [← HE.out, lowL_end (by rw [HLL.out]; exact Nat.le_refl _)]
      obtain ⟨AV, cV, rfl, sV⟩ := Ow.sl hA.row
      have e1 : ∀ n, (w1.drewN n).cell? ⟨a, 1, none⟩ = some (.slice AV Ps.length cV) := fun n => (HA.out.later (below_drewN (Below.refl _ _) n)).c.2.1
      have e2 : ∀ n, (w1.drewN n).cell? ⟨a, 2, none⟩ = some (.int .i64 (Ps.length : Int)) := fun n => (HA.out.later (below_drewN (Below.refl _ _) n)).c.2.2.1
      have e3 := HA.out.c.2.1
      have e4 := HA.out.c.2.2.1
      clear hA sV
      go_upto_region 1 with (fail)
      go_quiet (fail)
      have HA2 := Lib.hid (HA.out.later (below_drewN (Below.refl _ _) nq))
      have HF2 := Lib.hid (HF.out.trans (S' := ArSet a g (.slice AV Ps.length cV) Ps) (FrS.of_below (below_drewN (Below.refl _ _) nq)) (fun i h => .inl h))
      clear e1 e2 e3 e4 HA HF
      generalize w1.drewN nq = w2 at *
      have e1 : ∀ n, (w2.drewN n).cell? ⟨a, 1, none⟩ = some (.slice AV Ps.length cV) := fun n => (HA2.out.later (below_drewN (Below.refl _ _) n)).c.2.1
      have e2 : ∀ n, (w2.drewN n).cell? ⟨a, 2, none⟩ = some (.int .i64 (Ps.length : Int)) := fun n => (HA2.out.later (below_drewN (Below.refl _ _) n)).c.2.2.1
      have e3 := HA2.out.c.2.1
      have e4 := HA2.out.c.2.2.1
      go_upto_region 3 with (fail)
      go_quiet (fail)
      have HA3 := Lib.hid (HA2.out.later (below_drewN (Below.refl _ _) nq))
      have HF3 := Lib.hid (HF2.out.trans (S' := ArSet a g (.slice AV Ps.length cV) Ps) (FrS.of_below (below_drewN (Below.refl _ _) nq)) (fun i h => .inl h))
      clear e1 e2 e3 e4 HA2 HF2
      generalize w2.drewN nq = w3 at *
      have e1 := HA3.out.c.2.1
      have e0 := HA3.out.c.1
      by_cases h96 : Ps.length = 4096
      · have d2 : ((Ps.length : Int) == 4096) = true := by rw [h96]; rfl
        have HN96 := Lib.hid h96
        clear h96
        go_wp2
        go_ret
        exact ⟨false, _, Ps, rfl, by rw [HL.out, HST.out]; exact HA3.out, HF3.out, Nw.refl, .inr (.inl ⟨rfl, by rw [HL.out, HST.out], HN96.out, rfl⟩)⟩
      · have d2 : ((Ps.length : Int) == 4096) = false := by rw [beq_eq_false_iff_ne]; omega
        have HN96 : Hid (Ps.length < 4096) := by show _ < _; omega
        clear h96
        go_wp2_with fail
        refine (pg_new s w3 h2 h4).mono ?_
        rintro e w4 ⟨rfl, hp, hb⟩
        have HP4 : Hid (PgS w4 w3.heap.size (w3.heap.size + 1) w3.heap.size s newP) := Lib.hid hp
        have HA4 := Lib.hid (HA3.out.later hb)
        have HF4 := Lib.hid (HF3.out.trans (S' := ArSet a g (.slice AV Ps.length cV) Ps) (FrS.of_below hb) (fun i h => .inl h))
        have HZ3 : Hid (w.heap.size ≤ w3.heap.size ∧ B ≤ w3.heap.size ∧ ∀ x ∈ Ps, x.1 < w3.heap.size ∧ x.2.1 < w3.heap.size) := ⟨HF3.out.size, Nat.le_trans HA3.out.hp (Nat.le_of_lt HA3.out.blk.lt), fun x hx => ⟨(Pg.at_ (HA3.out.pgs x hx)).plt, (Pg.at_ (HA3.out.pgs x hx)).blt⟩⟩
        have HG3 : Hid (g < w3.heap.size) := Lib.hid HA3.out.gens.2.lt
        clear hp hb e0 e1 HA3 HF3
        have hbx : Below w4.heap.size w4 (w4.alloc (.cells #[.pointer (some ⟨w3.heap.size + 1, 0, none⟩)] 67)) := (Below.refl _ _).alloc (Nat.le_refl _) _
        have HA5 := Lib.hid (HA4.out.later hbx)
        have HP5 := Lib.hid ((HP4.out.later hbx).base HZ3.out.2.1)
        have HF5 := Lib.hid (HF4.out.trans (S' := ArSet a g (.slice AV Ps.length cV) Ps) (FrS.of_below hbx) (fun i h => .inl h))
        have HXC : Hid ((w4.alloc (.cells #[.pointer (some ⟨w3.heap.size + 1, 0, none⟩)] 67)).cell? ⟨w4.heap.size, 0, none⟩ = some (pv (w3.heap.size + 1))) := (Blk.new w4 #[.pointer (some ⟨w3.heap.size + 1, 0, none⟩)] 67).cell 0
        have HB5 : Hid (B ≤ (w4.alloc (.cells #[.pointer (some ⟨w3.heap.size + 1, 0, none⟩)] 67)).heap.size) := Nat.le_trans (Nat.le_of_lt (Nat.lt_of_le_of_lt HA4.out.hp HA4.out.blk.lt)) hbx.size
        have HZ5 : Hid (w.heap.size ≤ (w4.alloc (.cells #[.pointer (some ⟨w3.heap.size + 1, 0, none⟩)] 67)).heap.size) := Lib.hid HF5.out.size
        have e1 := HA4.out.c.2.1
        clear hbx
        obtain ⟨pn, hpn⟩ : ∃ pn, w3.heap.size + 1 = pn := ⟨_, rfl⟩
        have HPN : Hid (w3.heap.size + 1 = pn) := hpn
        rw [hpn] at HP5 HXC HA5 HF5 HB5 HZ5
        rw [hpn]
        clear hpn
        generalize w3.heap.size = bn at *
        go_wp2_with (first
          | (at_builtin; refine append_lies_sl elemP rfl (.tmp 66) (.tmp 68) rfl B (.slice AV Ps.length cV) Ps.length (Ps.map (fun x => x.1)) rfl HA5.out.row w4.heap.size pn rfl HXC.out (by omega) (by decide) HB5.out ?_; intro A6 c6 w6 ho6 hg6)
          | fail)
        intro hn6
        have hm := HA5.out.more HP5.out (fun x hx => ⟨by have := (HZ3.out.2.2 x hx).1; have := HPN.out; omega, by have := (HZ3.out.2.2 x hx).2; omega⟩) (by have := HG3.out; omega) ho6 hg6
        have HBLK := Lib.hid hm.1
        have HAR := Lib.hid hm.2
        have HF6 := Lib.hid ((HF5.out.trans (S' := ArSet a g (.slice AV Ps.length cV) Ps) (FrS.of_grown hg6 (fun k e => .inr (.inr (.inl e)))) (fun i h => .inl h)).trans (S' := ArSet a g (.slice AV Ps.length cV) Ps) (FrS.of_grown (grown_set w6 a 1 (.slice A6 (Ps.length + 1) c6)) (fun k e => .inl (Option.some.inj e).symm)) (fun i h => .inl h))
        have HNW : Hid (Nw w (.slice AV Ps.length cV) (.slice A6 (Ps.length + 1) c6)) := Nw.trans Nw.refl hn6 HZ5.out
        have q1 := HBLK.out.cell 1
        have qf := HBLK.out.frozen 1
        simp only [List.getElem?_toArray, List.getElem?_cons_zero, List.getElem?_cons_succ] at q1
        clear ho6 hg6 hn6 hm HXC e1
        go_wp2
        go_ret
        exact ⟨true, _, _, rfl, by rw [HL.out, HST.out]; exact HAR.out, HF6.out, HNW.out, .inr (.inr ⟨rfl, by rw [HL.out, HST.out], HN96.out, _, _, rfl, by have := HZ3.out.1; have := HPN.out; omega, HZ3.out.1⟩)⟩
end Go.Proofs.Ytbnbhhmgfogjeaa
