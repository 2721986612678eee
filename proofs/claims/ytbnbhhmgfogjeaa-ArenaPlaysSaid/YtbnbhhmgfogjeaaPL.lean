/- The document's Alloc and Copy. -/
import Derived.Test.YtbnbhhmgfogjeaaPI
namespace Go.Proofs.Ytbnbhhmgfogjeaa
open Go.ChangeShapes Go.WideShapes Go.ChangeAt Go.RowKit Go.Maps
set_option linter.unusedVariables false
set_option linter.unusedSimpArgs false

section
variable {W W' : World} {K B q s : Nat} {vP vG vP2 vG2 : Value} {Ds : List De} {L L2 : List gn.Ct} {st : AS} {S R : Nat → Prop}
theorem HOwn.nq {c : Array Value} {t : Nat} {n : Nat} (h : HOwn W B vG n L) (hb : Blk W q c t) (ht : t ≠ 93) : vG.ownBlock ≠ some q := fun e => by
  obtain ⟨cur, hc⟩ := h.tag q e
  have h2 : W.heap[q]? = some (.cells c t (0, 0)) := hb
  rw [h2] at hc; simp only [Option.some.injEq, Obj.cells.injEq] at hc; exact ht hc.2.1
theorem ow_nq2 {α : Type} {enc : α → Value} {e n t : Nat} {v : Value} {xs : List α} {c : Array Value} (h : Ow enc W B e v n xs) (hb : Blk W q c t) (he : e ≠ t) : v.ownBlock ≠ some q := fun e2 => by
  obtain ⟨cur, hc⟩ := Ow.tag h q e2
  have h2 : W.heap[q]? = some (.cells c t (0, 0)) := hb
  rw [h2] at hc; simp only [Option.some.injEq, Obj.cells.injEq] at hc; exact he hc.2.1.symm
theorem De.nq {d : De} {c : Array Value} (h : d.ok W B s) (hb : Blk W q c 56) : ¬ d.own q := fun e => by
  have h2 : W.heap[q]? = some (.cells c 56 (0, 0)) := hb
  obtain ⟨a, b, c⟩ := h.1.other h2 (by decide)
  rcases e with e | e | e | e
  · exact a e
  · exact b e
  · exact c e
  · obtain ⟨_, cur, hc⟩ := h.1.oK.tg q e
    rw [h2] at hc; cases hc
theorem De.kept {d : De} (h : d.ok W B s) (hz : W.heap.size ≤ W'.heap.size) (hk : ∀ k, d.own k → W'.heap[k]? = W.heap[k]?) : d.ok W' B s := ⟨h.1.keepS hz hk, h.2⟩
theorem De.lt {d : De} (h : d.ok W B s) : ∀ k, d.own k → k < W.heap.size := fun k hk => by
  have hl := h.1.lt
  rcases hk with rfl | e | e | e
  · exact hl.1
  · exact (hl.2.1 k e).2
  · exact (hl.2.2.1 k e).2
  · exact (hl.2.2.2 k e).2
theorem De.set {d : De} {c : Array Value} {j : Nat} {u : Value} (h : d.ok W B s) (hb : Blk W q c 56) : d.ok (W.setCell ⟨q, j, none⟩ u) B s :=
  De.kept h (by simp) (fun k hk => (grown_set W q j u).block k (De.lt h k hk) (fun e => De.nq h hb (by rw [← Option.some.inj e]; exact hk)))
/-- a page more, of newer memory -/
theorem Da.more (h : Da W B q s vP vG Ds L) {d : De} (hd : d.ok W B s) (hnew : ∀ k, d.own3 k → ∀ e ∈ Ds, ¬ e.own3 k) {n : Nat} (hn : n = Ds.length + 1) (ho : Ow pv W B 85 vP2 n (Ds.map (fun d => d.q) ++ [d.q])) :
    Da (W.setCell ⟨q, 1, none⟩ vP2) B q s vP2 vG (Ds ++ [d]) L := by
  subst hn
  refine ⟨h.hq, h.blk.set (j := 1) vP2, ?_, h.giv.keepS (fun k e => (grown_set W q 1 vP2).block k (h.giv.lt k e).2 (fun e2 => h.giv.nq h.blk (by decide) (by rw [e, Option.some.inj e2]))), fun e he => ?_, ?_⟩
  · rw [List.map_append, List.length_append]
    exact ow_set ho q 1 vP2 (ow_nq2 ho h.blk (by decide))
  · rcases List.mem_append.1 he with he | he
    · exact De.set (h.pgs e he) h.blk
    · rw [List.mem_singleton.1 he]; exact De.set hd h.blk
  · rw [List.pairwise_append]
    refine ⟨h.ap, by simp, fun a ha b hb k x y => ?_⟩
    rw [List.mem_singleton.1 hb] at y
    exact hnew k y a ha x
/-- another row of what was given -/
theorem Da.setG (h : Da W B q s vP vG Ds L) (ho : HOwn W B vG2 L2.length L2) : Da (W.setCell ⟨q, 2, none⟩ vG2) B q s vP vG2 Ds L2 :=
  ⟨h.hq, h.blk.set (j := 2) vG2, ow_set h.row q 2 vG2 (ow_nq2 h.row h.blk (by decide)), ho.keepS (fun k e => (grown_set W q 2 vG2).block k (ho.lt k e).2 (fun e2 => ho.nq h.blk (by decide) (by rw [e, Option.some.inj e2]))), fun e he => De.set (h.pgs e he) h.blk, h.ap⟩
theorem FrS.set {j : Nat} {u : Value} (h : R q) : FrS W (W.setCell ⟨q, j, none⟩ u) R := ⟨rfl, rfl, rfl, by simp, fun k hk hn => (grown_set W q j u).block k hk (fun e => hn (by rw [Option.some.inj e]; exact h))⟩
theorem FrS.thenB {w0 : World} (h : FrS w0 W R) (hb : Below W.heap.size W W') : FrS w0 W' R := ⟨hb.os.trans h.os, hb.tape.trans h.tape, hb.output.trans h.output, Nat.le_trans h.size hb.size, fun k hk hn => (hb.block k (Nat.lt_of_lt_of_le hk h.size)).trans (h.block k hk hn)⟩
theorem FrS.then {w0 : World} {R2 : Nat → Prop} (h : FrS w0 W R) (hf : FrS W W' R2) (h2 : ∀ k, R2 k → R k ∨ w0.heap.size ≤ k) : FrS w0 W' R := ⟨hf.os.trans h.os, hf.tape.trans h.tape, hf.output.trans h.output, Nat.le_trans h.size hf.size, fun k hk hn => (hf.block k (Nat.lt_of_lt_of_le hk h.size) (fun x => by rcases h2 k x with h2 | h2; exact hn h2; omega)).trans (h.block k hk hn)⟩
end
/-- the document's arena behind the pages: the row may have a page more -/
structure Mid (w W : World) (B q s : Nat) (vP vG : Value) (Ds : List De) (L : List gn.Ct) (Ls : List PS) : Prop where
  ex : ∃ vP1 Ds1, Da W B q s vP1 vG Ds1 L ∧ Ds1.map (fun d => d.P) = Ls ∧ FrS w W (DSet q vP vG Ds) ∧ ∀ k, DSet q vP1 vG Ds1 k → DSet q vP vG Ds k ∨ w.heap.size ≤ k
theorem newP_ok {W : World} {q s : Nat} {B : Nat} (h : Dx W q q s [] [] [] (.slice none 0 0) (.slice none 0 0) (.slice none 0 0)) (hB : B ≤ q) : (⟨q, [], [], [], .slice none 0 0, .slice none 0 0, .slice none 0 0, newP⟩ : De).ok W B s :=
  ⟨h.base hB, ⟨rfl, rfl, fun k hk => absurd hk (Nat.not_lt_zero _), fun k hk => absurd hk (Nat.not_lt_zero _), rfl, (fun k hk => by cases hk), rfl⟩⟩
theorem filt_take {L : List gn.Ct} {z : Int} {k : Nat} (h : k < L.length) : (L.take (k + 1)).filter (fun p => decide (p.1 ≠ z)) = (L.take k).filter (fun p => decide (p.1 ≠ z)) ++ (if (L.getD k ct0).1 = z then [] else [L.getD k ct0]) := by
  rw [List.take_add_one, List.filter_append, List.getElem?_eq_getElem h, List.getD_eq_getElem?_getD, List.getElem?_eq_getElem h]
  by_cases e : (L[k]).1 = z
  · rw [Option.getD_some, if_pos e]; simp [e]
  · rw [Option.getD_some, if_neg e]; simp [e]

def flG (L : List gn.Ct) (z : Int) (k : Nat) : List gn.Ct := (L.take k).filter (fun p => decide (p.1 ≠ z))
theorem flG_succ {L : List gn.Ct} {z : Int} {k : Nat} (h : k < L.length) : flG L z (k + 1) = flG L z k ++ (if (L.getD k ct0).1 = z then [] else [L.getD k ct0]) := filt_take h
theorem flG_len (L : List gn.Ct) (z : Int) (k : Nat) : (flG L z k).length ≤ L.length := Nat.le_trans (List.length_filter_le _ _) (by rw [List.length_take]; omega)
theorem flG_all (L : List gn.Ct) (z g : Int) : flG L z L.length ++ [(z, g)] = givL L z g := by unfold flG givL; rw [List.take_length]
theorem u16_in (k : Nat) (h : k ≤ 65535) : IntKind.u16.wrap (k : Int) = (k : Int) := by rw [IntKind.wrap_u16]; omega
theorem iq_no {a b : Int} (h : a ≠ b) : (a == b) = false := by rw [beq_eq_false_iff_ne]; exact h
theorem iq_yes {a b : Int} (h : a = b) : (a == b) = true := by rw [h]; simp
theorem in_no {a b : Int} (h : a = b) : (a != b) = false := by rw [h]; simp
theorem in_yes {a b : Int} (h : a ≠ b) : (a != b) = true := by simp [h]
set_option maxRecDepth 100000 in
set_option maxHeartbeats 8000000 in
theorem daalloc_any (K B q s : Nat) (st : AS) (S : Nat → Prop) (w : World) (h : DA K w B q s st S) (hu : Pu s st) (hlf : ∀ i, i < st.1 → fullP s (st.2.1.getD i newP) = true) (hB : B ≤ w.heap.size) (h2 : 2 ≤ s) (h4 : s ≤ 4096) (hK : K + 1 ≤ 100000) : Calls Try.prog 28 #[.pointer (some ⟨q, 0, none⟩)] w (DAE (K + 1) B q s (alA s st).1 S (.tuple #[.int .u64 (alA s st).2.1, .int .i64 (alA s st).2.2]) w) := by
  have HD0 : Hid (∀ st2 : AS, st2.2 = st.2 → DA (K + 1) w B q s st2 S) := fun st2 e2 => by
    obtain ⟨vP, vG, Ds, L, ha, hm, hg, hrg, hll, hS⟩ := h
    exact ⟨vP, vG, Ds, L, ha, by rw [e2]; exact hm, by rw [e2]; exact hg, hrg, ⟨by omega, hK⟩, hS⟩
  obtain ⟨vP, vG, Ds, L, ha, hm, hg, hrg, hll, hS⟩ := h
  have hl : st.2.1.length = Ds.length := by rw [← hm, List.length_map]
  have hn : Ds.length ≤ 4096 := by have := hu.2.2.2; omega
  have HLF : Hid (∀ i, i < lowL s st.1 st.2.1 → fullP s (st.2.1.getD i newP) = true) := fun i hi => by
    by_cases h : i < st.1
    · exact hlf i h
    · obtain ⟨P, hP, hf⟩ := (lowL_is s st.2.1 _ st.1 rfl hu.2.2.1).1 i (by omega) hi
      rw [getD_of hP]; exact hf
  have HNF : Hid (∀ i (hi : i < Ds.length), i = lowL s st.1 st.2.1 → fullP s (Ds[i]).P = false) := fun i hi e => by
    refine (lowL_is s st.2.1 _ st.1 rfl hu.2.2.1).2 _ ?_
    rw [← e, ← hm, List.getElem?_map, List.getElem?_eq_getElem hi]; rfl
  have HLE : Hid (lowL s st.1 st.2.1 ≤ Ds.length) := by
    have := lowL_le (s := s) hu.2.2.1
    rw [hl] at this; exact this
  have HC := Lib.hid (alA_cases h2 h4 hu.1 hu.2.2.1 hu.2.2.2)
  have HAL : Hid (alA s st = if lowL s st.1 st.2.1 < Ds.length then putA s (lowL s st.1 st.2.1) st.2.1 st.2.2 else if Ds.length = 4096 then ((lowL s st.1 st.2.1, st.2.1, st.2.2), 0, 41) else putA s (lowL s st.1 st.2.1) (st.2.1 ++ [newP]) st.2.2) := by
    show _ = _
    unfold alA; rw [hl]
  obtain ⟨lo, hlo⟩ : ∃ lo, lowL s st.1 st.2.1 = lo := ⟨_, rfl⟩
  rw [hlo] at HLF HNF HLE HC HAL
  have hle := HLE.out
  have HA := Lib.hid ha
  have HM := Lib.hid hm
  have HL : Hid (st.2.1.length = Ds.length) := hl
  have HPU := Lib.hid hu
  have HG := Lib.hid hg
  have HRG := Lib.hid hrg
  have HS : Hid (S = DSet q vP vG Ds) := hS
  have hL1 : L.length ≤ K := hll.1
  have HB := Lib.hid hB
  obtain ⟨AV, cV, hv, _⟩ := Ow.sl ha.row
  subst hv
  obtain ⟨AG, cG, hvg, _⟩ := ha.giv.sl
  subst hvg
  have HR0 : Hid (∀ k (hk : k < Ds.length) W, Below w.heap.size w W → Calls Try.prog 50 #[.pointer (some ⟨(Ds[k]).q, 0, none⟩)] W fun e w' => e = .returned (.int .i64 (((4096 / s : Nat) : Int) - ((Ds[k]).P.2.1.length : Nat))) ∧ Below W.heap.size W w') := fun k hk W hb => by
    have hkk := (ha.later hb).pgs _ (List.getElem_mem hk)
    have hinv : InvS s (Ds[k]).P := by
      rw [← De.page (s := s) hm hk]; exact (hu.1 _ (getD_mem (by rw [hl]; exact hk))).inv
    exact droom_any B (Ds[k]).q s (Ds[k]).P _ _ _ _ _ _ W hkk.1 hkk.2 hinv h4
  have HCAP : Hid (∀ k (hk : k < Ds.length), (Ds[k]).P.2.1.length ≤ 4096 / s ∧ 4096 / s ≤ 4096) := fun k hk => by
    rw [← De.page (s := s) hm hk]
    exact ⟨(hu.1 _ (getD_mem (by rw [hl]; exact hk))).cap, Nat.div_le_self _ _⟩
  have HFD : Hid (∀ k (hk : k < Ds.length), fullP s (Ds[k]).P = decide ((Ds[k]).P.2.1.length = 4096 / s)) := fun k hk => rfl
  have HPC : Hid (∀ Ls : List PS, (Ls = st.2.1 ∧ lo < Ds.length) ∨ (Ls = st.2.1 ++ [newP] ∧ lo = Ds.length) → lo < Ls.length ∧ PgOk s (Ls.getD lo newP) ∧ fullP s (Ls.getD lo newP) = false) := fun Ls hLs => by
    rcases hLs with ⟨rfl, hlt⟩ | ⟨rfl, rfl⟩
    · refine ⟨by omega, hu.1 _ (getD_mem (by omega)), ?_⟩
      rw [De.page (s := s) hm hlt]; exact HNF.out lo hlt rfl
    · rw [← hl]
      refine ⟨by simp, ?_⟩
      have e : (st.2.1 ++ [newP]).getD st.2.1.length newP = newP := by
        rw [List.getD_eq_getElem?_getD, List.getElem?_append_right (Nat.le_refl _)]; simp
      rw [e]
      refine ⟨PgOk.new h2, decide_eq_false (show ¬ (0 = 4096 / s) from fun e => ?_)⟩
      have : 0 < 4096 / s := Nat.div_pos h4 (by omega)
      omega
  have HGOK := Lib.hid hu.2.1
  obtain ⟨⟨stn, rh, re⟩, hrr⟩ : ∃ r, alA s st = r := ⟨_, rfl⟩
  rw [hrr] at HAL
  rw [hrr]
  show Calls Try.prog 28 #[.pointer (some ⟨q, 0, none⟩)] w (DAE (K + 1) B q s stn S (.tuple #[.int .u64 rh, .int .i64 re]) w)
  clear ha hm hg hrg hS hlf hlo hu hl hll HLE hB hrr HC
  go_enter Try.func28, Try.ntmps28
  go_upto_block 0 with (fail)
  go_cut [4] (fun s4 wx => s4 = .int .i64 (lo : Nat) ∧ Below w.heap.size w wx)
  case first =>
    go_wp2_with fail
    go_loopw [4] (fun i W => ∃ k : Nat, k ≤ lo ∧ i = .int .i64 k ∧ Below w.heap.size w W) (fun i _ => lo - (intOf i).toNat)
    case atStart => exact ⟨0, Nat.zero_le _, rfl, Below.refl _ _⟩
    case round =>
      obtain ⟨k, hk, rfl, hb⟩ := hrel
      have HBW := Lib.hid hb
      have c1 := (HA.out.later hb).blk.cell 1
      simp only [List.getElem?_toArray, List.getElem?_cons_zero, List.getElem?_cons_succ] at c1
      by_cases hlt : k < Ds.length
      · have d1 : decide ((k : Int) < (Ds.length : Int)) = true := decide_eq_true (by omega)
        have wk : IntKind.i64.wrap ((k : Int) + 1) = (k : Int) + 1 := IntWalk.i64_in _ (by omega)
        obtain ⟨gr, c, hv, hc⟩ := (HA.out.later hb).at_ hlt
        cases hv
        have i5 := idx53 gr Ds.length cV k (k : Int) rfl hlt
        have HR := Lib.hid (HR0.out k hlt _ hb)
        have hcp := HCAP.out k hlt
        have HFK := Lib.hid (HFD.out k hlt)
        have HFU : Hid (k < lo → fullP s (Ds[k]).P = true) := fun hk => by rw [← De.page (s := s) HM.out hlt]; exact HLF.out k hk
        have HFN : Hid (k = lo → fullP s (Ds[k]).P = false) := fun hk => HNF.out k hlt hk
        obtain ⟨qq, hqq⟩ : ∃ qq, (Ds[k]).q = qq := ⟨_, rfl⟩
        rw [hqq] at HR hc
        obtain ⟨m2, hm2⟩ : ∃ m2, (Ds[k]).P.2.1.length = m2 := ⟨_, rfl⟩
        rw [hm2] at HR HFK hcp
        obtain ⟨ms, hms⟩ : ∃ ms, 4096 / s = ms := ⟨_, rfl⟩
        rw [hms] at HR HFK hcp
        clear hqq hm2 hms hb
        by_cases hkl : k < lo
        · have hz : m2 = ms := of_decide_eq_true (HFK.out.symm.trans (HFU.out hkl))
          subst hz
          have hw0 : (m2 : Int) - (m2 : Int) = 0 := by omega
          rw [hw0] at HR
          go_wp2_with fail
          refine HR.out.mono ?_
          rintro e w2 ⟨rfl, hb⟩
          have hB2 := stepB HBW.out hb
          have HB2 := Lib.hid hB2
          clear hB2 hb c1 hc i5
          go_wp2
          go_roundw
          case rel => exact ⟨k + 1, by omega, by go_num, HB2.out⟩
          case measure => simp [intOf]; omega
        · obtain rfl : k = lo := by omega
          have hz : m2 ≠ ms := of_decide_eq_false (HFK.out.symm.trans (HFN.out rfl))
          obtain ⟨x, hx⟩ : ∃ x, (ms : Int) - (m2 : Int) = x := ⟨_, rfl⟩
          rw [hx] at HR
          have hx0 : (x == 0) = false := iq_no (by omega)
          clear hx hz
          go_wp2_with fail
          refine HR.out.mono ?_
          rintro e w2 ⟨rfl, hb⟩
          have hB2 := stepB HBW.out hb
          have HB2 := Lib.hid hB2
          clear hB2 hb c1 hc i5
          go_wp2
          go_meet
          exact ⟨rfl, HB2.out⟩
      · obtain rfl : k = Ds.length := by omega
        obtain rfl : lo = Ds.length := by omega
        have d1 : decide ((Ds.length : Int) < (Ds.length : Int)) = false := decide_eq_false (by omega)
        clear hb
        go_wp2
        go_meet
        exact ⟨rfl, HBW.out⟩
  case rest =>
    obtain ⟨rfl, hb⟩ := hcut
    obtain ⟨w1, rfl⟩ : ∃ w1 : World, w1 = wc := ⟨_, rfl⟩
    have HBW := Lib.hid hb
    have HA1 := Lib.hid (HA.out.later hb)
    clear hb HR0 HCAP HFD
    have c1 := HA1.out.blk.cell 1
    have c0 := HA1.out.blk.cell 0
    simp only [List.getElem?_toArray, List.getElem?_cons_zero, List.getElem?_cons_succ] at c0 c1
    by_cases hno : lo = Ds.length ∧ Ds.length = 4096
    · obtain ⟨rfl, h4096⟩ := hno
      have HV : Hid ((stn, rh, re) = ((Ds.length, st.2.1, st.2.2), 0, 41)) := by
        show _ = _
        rw [HAL.out, if_neg (Nat.lt_irrefl _), if_pos h4096]
      have HE := Lib.hid ((HD0.out (Ds.length, st.2.1, st.2.2) rfl).later HBW.out)
      have e1 : ((Ds.length : Int) == (Ds.length : Int)) = true := iq_yes rfl
      have e2 : ((Ds.length : Int) == 4096) = true := iq_yes (by omega)
      clear h4096 HLF HNF
      go_wp2
      go_ret2
      obtain ⟨rfl, rfl, rfl⟩ : stn = (Ds.length, st.2.1, st.2.2) ∧ rh = 0 ∧ re = 41 := by have := HV.out; simp only [Prod.mk.injEq] at this; exact ⟨this.1, this.2.1, this.2.2⟩
      exact ⟨rfl, S, HE.out, fun k hk => .inl hk, FrS.of_below HBW.out⟩
    · obtain ⟨Ls, hLs, hLv⟩ : ∃ Ls, ((Ls = st.2.1 ∧ lo < Ds.length) ∨ (Ls = st.2.1 ++ [newP] ∧ lo = Ds.length)) ∧ (stn, rh, re) = putA s lo Ls st.2.2 := by
        by_cases hlt : lo < Ds.length
        · exact ⟨st.2.1, .inl ⟨rfl, hlt⟩, by rw [HAL.out, if_pos hlt]⟩
        · have e : lo = Ds.length := by omega
          exact ⟨st.2.1 ++ [newP], .inr ⟨rfl, e⟩, by rw [HAL.out, if_neg hlt, if_neg (fun e2 => hno ⟨e, e2⟩)]⟩
      have HLS := Lib.hid hLs
      have HV := Lib.hid hLv
      have HPK := Lib.hid (HPC.out Ls hLs)
      have HNO := Lib.hid hno
      clear hLs hLv hno HAL HPC HLF HNF
      obtain ⟨bb, hbb⟩ : ∃ b, ((lo : Int) == (Ds.length : Int)) = b := ⟨_, rfl⟩
      go_upto_if 38 with (fail)
      have HBB := Lib.hid hbb
      clear hbb
      go_cut [4] (fun s4 wx => s4 = .int .i64 (lo : Nat) ∧ Mid w wx B q s (.slice AV Ds.length cV) (.slice AG L.length cG) Ds L Ls)
      case first =>
        cases bb with
        | false =>
          have HLE2 : Hid (Ls = st.2.1) := by
            rcases HLS.out with ⟨e, _⟩ | ⟨_, e⟩
            · exact e
            · have := HBB.out; rw [e] at this; simp at this
          clear c0 c1
          go_wp2
          go_meet
          exact ⟨rfl, ⟨_, Ds, HA1.out, by rw [HLE2.out]; exact HM.out, FrS.of_below HBW.out, fun k hk => .inl hk⟩⟩
        | true =>
          have elo : lo = Ds.length := by
            have := HBB.out
            have h3 : (lo : Int) = (Ds.length : Int) := by simpa using this
            omega
          subst elo
          have HLE2 : Hid (Ls = st.2.1 ++ [newP]) := by
            rcases HLS.out with ⟨_, e⟩ | ⟨e, _⟩
            · omega
            · exact e
          have e2 : ((Ds.length : Int) == 4096) = false := iq_no (fun e => HNO.out ⟨rfl, by omega⟩)
          go_wp2_with fail
          refine (dnew_any s w1 h2 h4).mono ?_
          rintro e w2 ⟨rfl, hdx, hb⟩
          have HA2 := Lib.hid (HA1.out.later hb)
          have HB2 := Lib.hid (stepB HBW.out hb)
          have HW1 : Hid (w.heap.size ≤ w1.heap.size) := HBW.out.size
          have HX2 : Hid ((⟨w1.heap.size, [], [], [], .slice none 0 0, .slice none 0 0, .slice none 0 0, newP⟩ : De).ok w2 B s) := newP_ok hdx (Nat.le_trans HB.out HW1.out)
          have HQ2 : Hid (∀ e ∈ Ds, ∀ k, e.own3 k → k < w1.heap.size) := fun e he k hk => by
            obtain ⟨i, hi, rfl⟩ := List.getElem_of_mem he
            exact HA1.out.lt3 hi k hk
          obtain ⟨q2, hq2⟩ : ∃ q2, w1.heap.size = q2 := ⟨_, rfl⟩
          rw [hq2] at HX2 HQ2 HW1
          rw [hq2]
          clear hdx hb c0 c1 hq2 HA1 HBW
          have hbx : Below w2.heap.size w2 (w2.alloc (.cells #[] 85)) := (Below.refl _ _).alloc (Nat.le_refl _) _
          have c1x := (HA2.out.later hbx).blk.cell 1
          simp only [List.getElem?_toArray, List.getElem?_cons_zero, List.getElem?_cons_succ] at c1x
          have hws := HB2.out.size
          have HF0 : Hid (Ow pv (w2.alloc (.cells #[] 85)) w2.heap.size 85 (.slice (some ⟨w2.heap.size, 0, none⟩) 0 0) 0 []) := Ow.fresh w2 85 (Nat.le_refl _) rfl
          have HSK : Hid (Sl pv (w2.alloc (.cells #[] 85)) AV Ds.length cV (Ds.map (fun d => d.q))) := by
            obtain ⟨A', c', e, hs⟩ := Ow.sl (HA2.out.later hbx).row
            cases e; exact hs
          go_wp2_with (first
            | (at_builtin; refine wpList_append_sl elemQ rfl (.tmp 50) (.tmp 54) rfl w2.heap.size _ 0 [] rfl HF0.out AV Ds.length cV (Ds.map (fun d : De => d.q)) rfl HSK.out (by omega) (by decide) hbx.size ?_; intro v3 w3 ho3)
            | fail)
          intro hg3
          have HK3 : Hid (Ow pv w3 w2.heap.size 85 v3 Ds.length (Ds.map (fun d => d.q))) := by
            have := ho3
            rw [Nat.zero_add, List.nil_append] at this
            exact this
          have hb3 : Below w2.heap.size w2 w3 := hbx.grown hg3 hbx.size (fun j e => by cases e; exact Nat.le_refl _)
          have hb4 : Below w3.heap.size w3 (w3.alloc (.cells #[.pointer (some ⟨q2, 0, none⟩)] 85)) := (Below.refl _ _).alloc (Nat.le_refl _) _
          have HX4 : Hid (Sl pv (w3.alloc (.cells #[.pointer (some ⟨q2, 0, none⟩)] 85)) (some ⟨w3.heap.size, 0, none⟩) 1 1 [q2]) := Blk.sl (enc := pv) (xs := [q2]) (Blk.new w3 #[.pointer (some ⟨q2, 0, none⟩)] 85)
          have HK4 := Lib.hid (Ow.later HK3.out hb4)
          have HB4 := Lib.hid (stepB hb3 hb4)
          have HS4 : Hid (w2.heap.size ≤ (w3.alloc (.cells #[.pointer (some ⟨q2, 0, none⟩)] 85)).heap.size) := HB4.out.size
          clear ho3 hg3 hb3 hb4 hbx HF0 HSK c1x HK3
          go_wp2_with (first
            | (at_builtin; refine wpList_append_sl elemQ rfl (.tmp 55) (.tmp 57) rfl w2.heap.size _ Ds.length (Ds.map (fun d : De => d.q)) rfl HK4.out (some ⟨w3.heap.size, 0, none⟩) 1 1 [q2] rfl HX4.out (by omega) (by decide) HS4.out ?_; intro v5 w5 ho5)
            | fail)
          intro hg5
          obtain ⟨A5, c5, rfl, _⟩ := Ow.sl ho5
          have hlk := Ow.lt HK4.out
          have hl5 := Ow.lt ho5
          have HL5 : Hid (∀ k, (Value.slice A5 (Ds.length + 1) c5).ownBlock = some k → w.heap.size ≤ k) := fun k e => Nat.le_trans hws (hl5 k e).1
          have hb6 : Below w2.heap.size w2 w5 := HB4.out.grown hg5 HB4.out.size (fun j e => (hlk j e).1)
          have hb5 : Below w.heap.size w w5 := stepB HB2.out hb6
          have HA5 := Lib.hid (HA2.out.later hb6)
          have HX5 := Lib.hid (De.kept HX2.out hb6.size (fun k hk => hb6.block k (De.lt HX2.out k hk)))
          have HM5 := Lib.hid (HA5.out.more HX5.out (fun k hk e he he2 => by
            have h1 := HQ2.out e he k he2
            rcases hk with rfl | hk | hk
            · exact Nat.lt_irrefl _ h1
            · cases hk
            · cases hk) rfl (Ow.base ho5 (Nat.le_trans HB.out hws)))
          have HF5 : Hid (FrS w (w5.setCell ⟨q, 1, none⟩ (.slice A5 (Ds.length + 1) c5)) (DSet q (.slice AV Ds.length cV) (.slice AG L.length cG) Ds)) := (FrS.of_below (S := DSet q (.slice AV Ds.length cV) (.slice AG L.length cG) Ds) hb5).then (FrS.set (R := fun k => k = q) rfl) (fun k hk => .inl (.inl hk))
          have q1 := HA5.out.blk.cell 1
          have qf := HA5.out.blk.frozen 1
          simp only [List.getElem?_toArray, List.getElem?_cons_zero, List.getElem?_cons_succ] at q1
          clear ho5 hg5 hlk hl5 hb5 hb6 hws
          go_wp2
          go_meet
          refine ⟨rfl, ⟨_, _, HM5.out, by rw [List.map_append, HM.out, HLE2.out]; rfl, HF5.out, fun k hk => ?_⟩⟩
          rcases hk with e | e | e | ⟨d, hd, e⟩
          · exact .inl (.inl e)
          · exact .inr (HL5.out k e)
          · exact .inl (.inr (.inr (.inl e)))
          · rcases List.mem_append.1 hd with hd | hd
            · exact .inl (.inr (.inr (.inr ⟨d, hd, e⟩)))
            · rw [List.mem_singleton.1 hd] at e
              rcases e with rfl | e | e | e
              · exact .inr HW1.out
              · cases e
              · cases e
              · cases e
      case rest =>
        obtain ⟨rfl, ⟨vP1, Ds1, ha, hm, hf, hd⟩⟩ := hcut
        obtain ⟨w2, rfl⟩ : ∃ w2 : World, w2 = wc := ⟨_, rfl⟩
        clear HA1 HBW c0 c1 HBB
        obtain ⟨hlo1, hpo, hnf⟩ := HPK.out
        rw [← hm, List.length_map] at hlo1
        have hpg : Ls.getD lo newP = (Ds1[lo]).P := by
          rw [← hm, List.getD_eq_getElem?_getD, List.getElem?_map, List.getElem?_eq_getElem hlo1]; rfl
        rw [hpg] at hpo hnf
        have hLs2 : Ds1.length ≤ 4096 := by
          rw [show Ds1.length = Ls.length from by rw [← hm, List.length_map]]
          rcases HLS.out with ⟨e, _⟩ | ⟨e, e2⟩
          · rw [e]; have := HL.out; omega
          · rw [e, List.length_append]; have := HL.out
            have hne : Ds.length ≠ 4096 := fun e3 => HNO.out ⟨e2, e3⟩
            simp only [List.length_cons, List.length_nil]; omega
        have hnx := (hpo.next hnf).1
        obtain ⟨AP, cP, hv, _⟩ := Ow.sl ha.row
        subst hv
        obtain ⟨gr, c, hv, hc⟩ := ha.at_ hlo1
        cases hv
        have i5 := idx53 gr Ds1.length cP lo (lo : Int) rfl hlo1
        have c1 := ha.blk.cell 1
        simp only [List.getElem?_toArray, List.getElem?_cons_zero, List.getElem?_cons_succ] at c1
        have hkk := ha.pgs _ (List.getElem_mem hlo1)
        have HRD := Lib.hid (dalloc_any B (Ds1[lo]).q s (Ds1[lo]).P _ _ _ _ _ _ w2 hkk.1 hkk.2 hpo.inv (Nat.le_trans HB.out hf.size) h4)
        have hAO : alO s (Ds1[lo]).P = ((nextO s (Ds1[lo]).P : Nat) : Int) := by unfold alO; rw [if_neg (of_decide_eq_false hnf)]
        have hAE : alE s (Ds1[lo]).P = 0 := by unfold alE; rw [if_neg (of_decide_eq_false hnf)]
        rw [hAO, hAE] at HRD
        rw [putA] at HV
        rw [hpg] at HV
        have HNEW : Hid (∀ w', DEnd B (Ds1[lo]).q s (alS s (Ds1[lo]).P) (Ds1[lo]).vB (Ds1[lo]).vU (Ds1[lo]).vK w2 w' → ∃ Ds2, Da w' B q s (.slice (some ⟨gr, 0, none⟩) Ds1.length cP) (.slice AG L.length cG) Ds2 L ∧ Ds2.map (fun d => d.P) = Ls.set lo (alS s (Ds1[lo]).P) ∧ FrS w w' (DSet q (.slice AV Ds.length cV) (.slice AG L.length cG) Ds) ∧ ∀ k, DSet q (.slice (some ⟨gr, 0, none⟩) Ds1.length cP) (.slice AG L.length cG) Ds2 k → DSet q (.slice AV Ds.length cV) (.slice AG L.length cG) Ds k ∨ w.heap.size ≤ k) := fun w' hD => by
          obtain ⟨Bs2, Us2, Bk2, vB2, vU2, vK2, hx2, hr2, hf2, nB, nU, nK⟩ := hD
          obtain ⟨t1, t2, t3⟩ := ha.turn hlo1 (d' := ⟨(Ds1[lo]).q, Bs2, Us2, Bk2, vB2, vU2, vK2, alS s (Ds1[lo]).P⟩) rfl ⟨hx2, hr2⟩ hf2 nB nU nK
          refine ⟨_, t1, by rw [List.map_set, hm], hf.then t2 hd, fun k hk => ?_⟩
          rcases t3 k hk with e | e
          · exact hd k e
          · exact .inr (Nat.le_trans hf.size e)
        obtain ⟨qq, hqq⟩ : ∃ qq, (Ds1[lo]).q = qq := ⟨_, rfl⟩
        rw [hqq] at HRD hc HNEW
        generalize (Ds1[lo]).vB = vB at *
        generalize (Ds1[lo]).vU = vU at *
        generalize (Ds1[lo]).vK = vK at *
        obtain ⟨nx, hnxe⟩ : ∃ nx, nextO s (Ds1[lo]).P = nx := ⟨_, rfl⟩
        rw [hnxe] at HRD HV hnx
        obtain ⟨psn, hpsn⟩ : ∃ psn, alS s (Ds1[lo]).P = psn := ⟨_, rfl⟩
        rw [hpsn] at HRD HV HNEW
        have hlo2 : lo ≤ 4095 := by omega
        have hz : zOf lo nx = (lo : Int) * 65536 + (nx : Int) := rfl
        have hzr : gn.rg (zOf lo nx) := by show _ ∧ _; unfold zOf; omega
        have HGE : Hid (∀ W, (∃ vP Ds, Da W B q s vP (.slice AG L.length cG) Ds L) → Calls Try.prog 49 #[.pointer (some ⟨q, 0, none⟩), .int .u16 (lo : Int), .int .u16 (nx : Int)] W fun e w' => e = .returned (.int .u32 (gn.ofC st.2.2 (zOf lo nx))) ∧ W = w') := fun W hW => by
          obtain ⟨vP, Ds, hda⟩ := hW
          have h := dgen_any B q s _ _ L W hda.blk hda.giv HRG.out (by omega) (lo : Int) (nx : Int) (by omega) (by omega) (by omega) (by omega)
          rw [← hz, HG.out _ hzr] at h
          exact h
        have hz0 : zOf lo nx / 65536 = (lo : Int) := by unfold zOf; omega
        have hz1 : zOf lo nx % 65536 = (nx : Int) := by unfold zOf; omega
        have HZQ : Hid (∀ x : Int, x = zOf lo nx ↔ x / 65536 = (lo : Int) ∧ x % 65536 = (nx : Int)) := fun x => by
          constructor
          · intro e; rw [e]; exact ⟨hz0, hz1⟩
          · intro e; unfold zOf; omega
        have HH := Lib.hid hz
        obtain ⟨z, hzz⟩ : ∃ z, zOf lo nx = z := ⟨_, rfl⟩
        rw [hzz] at HV HGE hzr HZQ HH
        have HZR := Lib.hid hzr
        obtain ⟨g0, hgg⟩ : ∃ g0, gn.ofC st.2.2 z = g0 := ⟨_, rfl⟩
        rw [hgg] at HV HGE
        have wu : IntKind.u32.wrap (g0 + 1) = (g0 + 1) % 4294967296 := by rw [IntKind.wrap_u32]
        have hg1 : 0 ≤ (g0 + 1) % 4294967296 ∧ (g0 + 1) % 4294967296 ≤ 4294967295 := by omega
        obtain ⟨gv, hgv⟩ : ∃ gv, (g0 + 1) % 4294967296 = gv := ⟨_, rfl⟩
        rw [hgv] at HV wu hg1
        have HGV := Lib.hid hg1
        have wl : IntKind.u16.wrap (lo : Int) = (lo : Int) := u16_in lo (by omega)
        clear hm hd hf hpg hpo hnf hkk hAO hAE hqq hnxe hpsn hzz hgg hgv hz0 hz1 hz hzr ha hg1 HLS HNO
        go_wp2_with fail
        refine HRD.out.mono ?_
        rintro e w3 ⟨rfl, hD⟩
        obtain ⟨Ds2, ha3, hm3, hf3, hd3⟩ := HNEW.out _ hD
        have HA3 := Lib.hid ha3
        have HM3 := Lib.hid hm3
        have HF3 := Lib.hid hf3
        have HD3 := Lib.hid hd3
        clear hD hc i5 c1 ha3 hm3 hf3 hd3
        go_wp2_with fail
        refine (HGE.out _ ⟨_, _, HA3.out⟩).mono ?_
        rintro e w4 ⟨rfl, rfl⟩
        go_wp2
        go_loopw [10, 11] (fun o i W => ∃ k : Nat, k ≤ L.length ∧ i = .int .i64 k ∧ HOwn W w3.heap.size o (flG L z k).length (flG L z k) ∧ Below w3.heap.size w3 W) (fun _ i _ => L.length - (intOf i).toNat)
        case atStart => exact ⟨0, Nat.zero_le _, rfl, HOwn.none _ _, Below.refl _ _⟩
        case round =>
          obtain ⟨k, hk, rfl, ho, hb⟩ := hrel
          have hln := flG_len L z k
          obtain ⟨Ao, co, rfl, _⟩ := ho.sl
          have HO := Lib.hid ho
          have HBW := Lib.hid hb
          have HAW := Lib.hid (HA3.out.later hb)
          have c2 := HAW.out.blk.cell 2
          simp only [List.getElem?_toArray, List.getElem?_cons_zero, List.getElem?_cons_succ] at c2
          have HSL := Lib.hid HAW.out.giv.hsl
          clear ho hb
          by_cases hlt : k < L.length
          · have d1 : decide ((k : Int) < (L.length : Int)) = true := decide_eq_true (by omega)
            have wk : IntKind.i64.wrap ((k : Int) + 1) = (k : Int) + 1 := IntWalk.i64_in _ (by omega)
            obtain ⟨g, off, rfl, hg, hcell⟩ := HSL.out.2 (by omega)
            obtain ⟨x0, x1, x2⟩ := hcell k hlt
            have i5 := idx54 g off L.length cG k (k : Int) rfl hlt
            have HT := Lib.hid (flG_succ (z := z) hlt)
            obtain ⟨⟨y, m⟩, hy⟩ : ∃ x, L.getD k ct0 = x := ⟨_, rfl⟩
            rw [hy] at x0 x1 x2 HT
            generalize flG L z k = xs at *
            simp only at x0 x1 x2
            have HZY := Lib.hid (HZQ.out y)
            clear hcell hy hg HSL
            by_cases e : y = z
            · have HT2 : Hid (flG L z (k + 1) = xs) := HT.out.trans (by simp [e])
              have b1 : (y / 65536 != (lo : Int)) = false := in_no (HZY.out.1 e).1
              have b2 : (y % 65536 != (nx : Int)) = false := in_no (HZY.out.1 e).2
              clear HT e HZY
              generalize y / 65536 = yp at *
              generalize y % 65536 = yo at *
              go_wp2
              go_roundw
              case rel => exact ⟨k + 1, by omega, by go_num, by rw [HT2.out]; exact HO.out, HBW.out⟩
              case measure => simp [intOf]; omega
            · have HT2 : Hid (flG L z (k + 1) = xs ++ [(y, m)]) := HT.out.trans (by simp [e])
              have hb4 : Below wr.heap.size wr (wr.alloc (.cells #[.int .u16 (y / 65536), .int .u16 (y % 65536), .int .u32 m] 93)) := (Below.refl _ _).alloc (Nat.le_refl _) _
              have HO4 := Lib.hid (HO.out.later hb4)
              have HB4 := Lib.hid (stepB HBW.out hb4)
              have HX4 : Hid (HSl (wr.alloc (.cells #[.int .u16 (y / 65536), .int .u16 (y % 65536), .int .u32 m] 93)) (some ⟨wr.heap.size, 0, none⟩) 1 [(y, m)]) := Blk.hsl (p := (y, m)) (Blk.new wr _ 93)
              have HOR : Hid (y / 65536 ≠ (lo : Int) ∨ y % 65536 ≠ (nx : Int)) := by
                by_cases e1 : y / 65536 = (lo : Int)
                · exact .inr (fun e2 => e (HZY.out.2 ⟨e1, e2⟩))
                · exact .inl e1
              clear HT e HZY hb4 HO HAW
              generalize y / 65536 = yp at *
              generalize y % 65536 = yo at *
              have fin : True := trivial
              by_cases e1 : yp = (lo : Int)
              · have b1 : (yp != (lo : Int)) = false := in_no e1
                have b2 : (yo != (nx : Int)) = true := in_yes (by rcases HOR.out with h | h; exact absurd e1 h; exact h)
                clear HOR e1
                go_wp2_with (at_builtin; refine append_hd rfl (.tmp 110) (.tmp 118) rfl w3.heap.size _ xs.length xs rfl HO4.out (some ⟨wr.heap.size, 0, none⟩) 1 1 [(y, m)] rfl HX4.out (fun e => by cases e) (by omega) HB4.out.size ?_; intro v5 w5 ho5)
                intro hg5
                have hgr : Below w3.heap.size w3 w5 := HB4.out.grown hg5 HB4.out.size (fun j e => (HO4.out.lt j e).1)
                obtain ⟨A5, c5, rfl, _⟩ := ho5.sl
                have HO5 : Hid (HOwn w5 w3.heap.size (.slice A5 (xs.length + 1) c5) (xs.length + 1) (xs ++ [(y, m)])) := ho5
                have HB5 := Lib.hid hgr
                clear ho5 hg5 hgr HO4 HB4 HX4 x0 x1 x2 c2 i5 b1 b2
                go_wp2
                go_roundw
                case rel => exact ⟨k + 1, by omega, by go_num, by rw [HT2.out]; have := HO5.out; simpa using this, HB5.out⟩
                case measure => simp [intOf]; omega
              · have b1 : (yp != (lo : Int)) = true := in_yes e1
                clear HOR e1
                go_wp2_with (at_builtin; refine append_hd rfl (.tmp 110) (.tmp 118) rfl w3.heap.size _ xs.length xs rfl HO4.out (some ⟨wr.heap.size, 0, none⟩) 1 1 [(y, m)] rfl HX4.out (fun e => by cases e) (by omega) HB4.out.size ?_; intro v5 w5 ho5)
                intro hg5
                have hgr : Below w3.heap.size w3 w5 := HB4.out.grown hg5 HB4.out.size (fun j e => (HO4.out.lt j e).1)
                obtain ⟨A5, c5, rfl, _⟩ := ho5.sl
                have HO5 : Hid (HOwn w5 w3.heap.size (.slice A5 (xs.length + 1) c5) (xs.length + 1) (xs ++ [(y, m)])) := ho5
                have HB5 := Lib.hid hgr
                clear ho5 hg5 hgr HO4 HB4 HX4 x0 x1 x2 c2 i5 b1
                go_wp2
                go_roundw
                case rel => exact ⟨k + 1, by omega, by go_num, by rw [HT2.out]; have := HO5.out; simpa using this, HB5.out⟩
                case measure => simp [intOf]; omega
          · obtain rfl : k = L.length := by omega
            have d1 : decide ((L.length : Int) < (L.length : Int)) = false := decide_eq_false (by omega)
            have hb4 : Below wr.heap.size wr (wr.alloc (.cells #[.int .u16 (lo : Int), .int .u16 (nx : Int), .int .u32 gv] 93)) := (Below.refl _ _).alloc (Nat.le_refl _) _
            have HO4 := Lib.hid (HO.out.later hb4)
            have HB4 := Lib.hid (stepB HBW.out hb4)
            have HZL : Hid (z / 65536 = (lo : Int) ∧ z % 65536 = (nx : Int)) := (HZQ.out z).1 rfl
            have HX4 : Hid (HSl (wr.alloc (.cells #[.int .u16 (lo : Int), .int .u16 (nx : Int), .int .u32 gv] 93)) (some ⟨wr.heap.size, 0, none⟩) 1 [(z, gv)]) := by
              rw [← HZL.out.1, ← HZL.out.2]
              exact Blk.hsl (p := (z, gv)) (Blk.new wr _ 93)
            have HGA := Lib.hid (flG_all L z gv)
            clear hb4 HO HBW HAW HSL HZL
            generalize flG L z L.length = xs at *
            go_wp2_with (at_builtin; refine append_hd rfl (.tmp 121) (.tmp 127) rfl w3.heap.size _ xs.length xs rfl HO4.out (some ⟨wr.heap.size, 0, none⟩) 1 1 [(z, gv)] rfl HX4.out (fun e => by cases e) (by omega) HB4.out.size ?_; intro v5 w5 ho5)
            intro hg5
            have hgr : Below w3.heap.size w3 w5 := HB4.out.grown hg5 HB4.out.size (fun j e => (HO4.out.lt j e).1)
            obtain ⟨A5, c5, rfl, _⟩ := ho5.sl
            have HA5 := Lib.hid (HA3.out.later hgr)
            have hws := HF3.out.size
            have HLT5 : Hid (∀ k, (Value.slice A5 (xs.length + 1) c5).ownBlock = some k → w.heap.size ≤ k) := fun k e => Nat.le_trans hws (ho5.lt k e).1
            have hlg : (givL L z gv).length = xs.length + 1 := by rw [← HGA.out]; simp
            have HO5 : Hid (HOwn w5 B (.slice A5 (givL L z gv).length c5) (givL L z gv).length (givL L z gv)) := by
              rw [hlg, ← HGA.out]; exact ho5.base (Nat.le_trans HB.out hws)
            rw [← hlg]
            rw [← hlg] at HLT5
            have HF5 : Hid (FrS w (w5.setCell ⟨q, 2, none⟩ (.slice A5 (givL L z gv).length c5)) (DSet q (.slice AV Ds.length cV) (.slice AG L.length cG) Ds)) := (HF3.out.thenB hgr).then (FrS.set (R := fun k => k = q) rfl) (fun k hk => .inl (.inl hk))
            have HD5 := Lib.hid (HA5.out.setG HO5.out)
            have HGL := Lib.hid (givL_len (L := L) (z := z) (g := gv))
            have HGP := Lib.hid (givL_put (z := z) (g := gv) HG.out HGOK.out HZR.out (wf32 HGV.out.1 HGV.out.2))
            have HGR := Lib.hid (givL_rg (g := gv) HRG.out HZR.out)
            have HRH := Lib.hid (rhandle_x (lo : Int) (nx : Int) gv (w5.setCell ⟨q, 2, none⟩ (.slice A5 (givL L z gv).length c5)) (by omega) (by omega) (by omega) (by omega) HGV.out.1 HGV.out.2)
            have q2 := HA5.out.blk.cell 2
            have qf := HA5.out.blk.frozen 2
            simp only [List.getElem?_toArray, List.getElem?_cons_zero, List.getElem?_cons_succ] at q2
            clear ho5 hg5 hgr hws hlg HO4 HB4 HX4 HO5 HA5 c2
            generalize givL L z gv = L2 at *
            go_wp2_with fail
            refine HRH.out.mono ?_
            rintro e w6 ⟨rfl, rfl⟩
            clear q2 qf
            go_wp2
            go_ret2
            obtain ⟨rfl, rfl, rfl⟩ : stn = (lo, Ls.set lo psn, gn.putC st.2.2 z gv) ∧ rh = z * 4294967296 + gv ∧ re = 0 := by have := HV.out; simp only [Prod.mk.injEq] at this; exact ⟨this.1, this.2.1, this.2.2⟩
            refine ⟨by rw [HH.out]; rfl, _, ⟨_, _, Ds2, L2, HD5.out, HM3.out, HGP.out, HGR.out, ⟨by have := HGL.out; omega, hK⟩, rfl⟩, fun k hk => ?_, by rw [HS.out]; exact HF5.out⟩
            rw [HS.out]
            rcases hk with e | e | e | e
            · exact .inl (.inl e)
            · exact HD3.out k (.inr (.inl e))
            · exact .inr (HLT5.out k e)
            · exact HD3.out k (.inr (.inr (.inr e)))

section
variable {W W' : World} {B q s : Nat} {vP vG vP2 : Value} {Ds : List De} {L : List gn.Ct}
theorem De.nrow {d : De} (h : d.ok W B s) {B2 n : Nat} {v : Value} {xs : List Nat} (ho : Ow pv W B2 85 v n xs) : ∀ k, d.own k → v.ownBlock ≠ some k := fun k hk e => by
  obtain ⟨cur, hc⟩ := Ow.tag ho k e
  obtain ⟨a, b, c⟩ := h.1.other hc (by decide)
  rcases hk with e | e | e | e
  · exact a e
  · exact b e
  · exact c e
  · obtain ⟨_, cur2, hc2⟩ := h.1.oK.tg k e
    rw [hc] at hc2; cases hc2
theorem De.ge {d : De} (h : d.ok W B s) : ∀ k, d.own3 k → B ≤ k := fun k hk => by
  have hl := h.1.lt
  rcases hk with rfl | e | e
  · exact h.1.hq
  · exact (hl.2.1 k e).1
  · exact (hl.2.2.1 k e).1
theorem Da.grow (h : Da W B q s vP vG Ds L) (hg : W.grownBy W' vP.ownBlock) {d : De} (hd : d.ok W B s) (hnew : ∀ k, d.own3 k → ∀ e ∈ Ds, ¬ e.own3 k) {n : Nat} (hn : n = Ds.length + 1) (ho : Ow pv W' B 85 vP2 n (Ds.map (fun d => d.q) ++ [d.q])) :
    Blk W' q #[.int .i64 (s : Int), vP, vG] 56 ∧ Da (W'.setCell ⟨q, 1, none⟩ vP2) B q s vP2 vG (Ds ++ [d]) L := by
  subst hn
  have hb : Blk W' q #[.int .i64 (s : Int), vP, vG] 56 := h.blk.grown hg (fun e => ow_nq2 h.row h.blk (by decide) e.symm)
  have hgv : HOwn W' B vG L.length L := h.giv.kept hg (fun k e e2 => by
    obtain ⟨cur, hc⟩ := h.giv.tag k e
    obtain ⟨cur2, hc2⟩ := Ow.tag h.row k e2.symm
    rw [hc] at hc2; cases hc2)
  have hpk : ∀ e : De, e.ok W B s → e.ok W' B s := fun e he => De.kept he hg.size (fun k hk => hg.block k (De.lt he k hk) (fun e2 => De.nrow he h.row k hk e2.symm))
  refine ⟨hb, h.hq, hb.set (j := 1) vP2, ?_, hgv.keepS (fun k e => (grown_set W' q 1 vP2).block k (hgv.lt k e).2 (fun e2 => hgv.nq hb (by decide) (by rw [e, Option.some.inj e2]))), fun e he => ?_, ?_⟩
  · rw [List.map_append, List.length_append]
    exact ow_set ho q 1 vP2 (ow_nq2 ho hb (by decide))
  · rcases List.mem_append.1 he with he | he
    · exact De.set (hpk e (h.pgs e he)) hb
    · rw [List.mem_singleton.1 he]; exact De.set (hpk d hd) hb
  · rw [List.pairwise_append]
    refine ⟨h.ap, by simp, fun a ha b hb k x y => ?_⟩
    rw [List.mem_singleton.1 hb] at y
    exact hnew k y a ha x
end
theorem built56c (s : Int) (A : Option Addr) (n c : Nat) : Try.prog.built 56 [(0, .int .i64 s), (2, .slice A n c)] = some #[.int .i64 s, .slice none 0 0, .slice A n c] := by kernel_rfl
theorem De.base {W : World} {B B' s : Nat} {d : De} (h : d.ok W B s) (hb : B' ≤ B) : d.ok W B' s := ⟨h.1.base hb, h.2⟩
abbrev S2D (q s : Nat) (v : Value) (W : World) : Prop := W.cell? ⟨q, 0, none⟩ = some (.int .i64 (s : Int)) ∧ W.cell? ⟨q, 2, none⟩ = some v
theorem S2D.later {q s : Nat} {v : Value} {W W' : World} (h : S2D q s v W) (hb : Below W.heap.size W W') : S2D q s v W' :=
  ⟨(hb.cell (p := ⟨q, 0, none⟩) (lt_of_cell h.1)).trans h.1, (hb.cell (p := ⟨q, 2, none⟩) (lt_of_cell h.2)).trans h.2⟩
def CpR (K s : Nat) (st : AS) (w : World) (e : Ending) (w' : World) : Prop := ∃ q S, e = .returned (.pointer (some ⟨q, 0, none⟩)) ∧ DA K w' w.heap.size q s st S ∧ Below w.heap.size w w'
/-- the header of the row of pages: what it is there; and what is copied -/
abbrev SQ2 (oq q gr k : Nat) (v : Value) (pp : Nat) (W : World) : Prop := (W.cell? ⟨oq, 1, none⟩ = some (oldc W ⟨oq, 1, none⟩) ∧ W.frozen? ⟨oq, 1, none⟩ = false) ∧ W.cell? ⟨q, 1, none⟩ = some v ∧ W.cell? ⟨gr, k, none⟩ = some (.pointer (some ⟨pp, 0, none⟩))
set_option maxRecDepth 100000 in
set_option maxHeartbeats 8000000 in
theorem dacopy_any (K B q s : Nat) (st : AS) (S : Nat → Prop) (w : World) (h : DA K w B q s st S) (hu : Pu s st) (h4 : s ≤ 4096) : Calls Try.prog 25 #[.pointer (some ⟨q, 0, none⟩)] w (CpR K s st w) := by
  obtain ⟨vP, vG, Ds, L, ha, hm, hg, hrg, hll, _⟩ := h
  have hl : st.2.1.length = Ds.length := by rw [← hm, List.length_map]
  have hn : Ds.length ≤ 4096 := by have := hu.2.2.2; omega
  obtain ⟨AV, cV, hv, _⟩ := Ow.sl ha.row
  subst hv
  obtain ⟨AG, cG, hvg, _, hnil⟩ := ha.giv.sl
  subst hvg
  have HDA := Lib.hid ha
  have HM := Lib.hid hm
  have HFIN : Hid (∀ z, gn.rg z → gn.ofC L z = gn.ofC st.2.2 z) := hg
  have HRG := Lib.hid hrg
  have HLL := Lib.hid hll
  have hlK : L.length ≤ 100000 := Nat.le_trans hll.1 hll.2
  have HINV : Hid (∀ k (hk : k < Ds.length), InvS s (Ds[k]).P) := fun k hk => by
    rw [← De.page (s := s) hm hk]; exact (hu.1 _ (getD_mem (by rw [hl]; exact hk))).inv
  have hK0 : S2D q s (.slice AG L.length cG) w.drew := ⟨ha.blk.cell 0, ha.blk.cell 2⟩
  have HK0 := Lib.hid hK0
  have HNIL := Lib.hid hnil
  clear ha hm hg hrg hll hl hu hK0 hnil
  go_enter Try.func25, Try.ntmps25
  go_upto_region 1 with (fail)
  have hbd : Below w.heap.size w w.drew := Below.drew (Below.refl _ _)
  have HB1 := Lib.hid hbd
  clear hbd
  refine wp_region_noPanic ?_
  refine wp_region_held_drew (S := S2D q s (.slice AG L.length cG)) (by kernel_rfl) HK0.out (fun hHeld => ?_)
  generalize w.drew = w1 at *
  refine wpAnyH_take (i := 0) (oi := { dst := some 5, op := Op.move (Operand.tmp 0), type := 45, pos := "ref.go:111", after := #[], guard := none }) (v := ?_) rfl (by kernel_rfl) (by kernel_rfl) (by kernel_rfl) (fun _ _ _ h => h) (Or.inl ⟨by rfl, ?_⟩) (by assumption) ?_
  rotate_left
  · intro W hSw
    obtain ⟨k0, k2⟩ := hSw
    go_simp
    try with_reducible rfl
  simp only [Act.put, List.setIfInBounds_toArray, List.set_cons_zero, List.set_cons_succ]
  refine wpAnyH_take (i := 1) (oi := { dst := some 6, op := Op.nilCheck (Operand.tmp 5), type := 0, pos := "ref.go:111", after := #[{ on := 0, ground := Ground.data }], guard := none }) (v := ?_) rfl (by kernel_rfl) (by kernel_rfl) (by kernel_rfl) (fun _ _ _ h => h) (Or.inl ⟨by rfl, ?_⟩) (by assumption) ?_
  rotate_left
  · intro W hSw
    obtain ⟨k0, k2⟩ := hSw
    go_simp
    try with_reducible rfl
  simp only [Act.put, List.setIfInBounds_toArray, List.set_cons_zero, List.set_cons_succ]
  refine wpAnyH_take (i := 2) (oi := { dst := some 7, op := Op.fieldAddr 56 (Operand.tmp 6) 0, type := 0, pos := "ref.go:111", after := #[{ on := 1, ground := Ground.data }], guard := none }) (v := ?_) rfl (by kernel_rfl) (by kernel_rfl) (by kernel_rfl) (fun _ _ _ h => h) (Or.inl ⟨by rfl, ?_⟩) (by assumption) ?_
  rotate_left
  · intro W hSw
    obtain ⟨k0, k2⟩ := hSw
    go_simp
    try with_reducible rfl
  simp only [Act.put, List.setIfInBounds_toArray, List.set_cons_zero, List.set_cons_succ]
  refine wpAnyH_take (i := 3) (oi := { dst := some 8, op := Op.load 3 (Operand.tmp 7), type := 3, pos := "ref.go:111", after := #[{ on := 2, ground := Ground.data }], guard := none }) (v := ?_) rfl (by kernel_rfl) (by kernel_rfl) (by kernel_rfl) (fun _ _ _ h => h) (Or.inl ⟨by rfl, ?_⟩) (by assumption) ?_
  rotate_left
  · intro W hSw
    obtain ⟨k0, k2⟩ := hSw
    go_simp
    try with_reducible rfl
  simp only [Act.put, List.setIfInBounds_toArray, List.set_cons_zero, List.set_cons_succ]
  refine wpAnyH_take (i := 5) (oi := { dst := some 10, op := Op.move (Operand.tmp 0), type := 45, pos := "ref.go:111", after := #[], guard := none }) (v := ?_) rfl (by kernel_rfl) (by kernel_rfl) (by kernel_rfl) (fun _ _ _ h => h) (Or.inl ⟨by rfl, ?_⟩) (by assumption) ?_
  rotate_left
  · intro W hSw
    obtain ⟨k0, k2⟩ := hSw
    go_simp
    try with_reducible rfl
  simp only [Act.put, List.setIfInBounds_toArray, List.set_cons_zero, List.set_cons_succ]
  refine wpAnyH_take (i := 6) (oi := { dst := some 11, op := Op.nilCheck (Operand.tmp 10), type := 0, pos := "ref.go:111", after := #[{ on := 5, ground := Ground.data }], guard := none }) (v := ?_) rfl (by kernel_rfl) (by kernel_rfl) (by kernel_rfl) (fun _ _ _ h => h) (Or.inl ⟨by rfl, ?_⟩) (by assumption) ?_
  rotate_left
  · intro W hSw
    obtain ⟨k0, k2⟩ := hSw
    go_simp
    try with_reducible rfl
  simp only [Act.put, List.setIfInBounds_toArray, List.set_cons_zero, List.set_cons_succ]
  refine wpAnyH_take (i := 7) (oi := { dst := some 12, op := Op.fieldAddr 56 (Operand.tmp 11) 2, type := 0, pos := "ref.go:111", after := #[{ on := 6, ground := Ground.data }], guard := none }) (v := ?_) rfl (by kernel_rfl) (by kernel_rfl) (by kernel_rfl) (fun _ _ _ h => h) (Or.inl ⟨by rfl, ?_⟩) (by assumption) ?_
  rotate_left
  · intro W hSw
    obtain ⟨k0, k2⟩ := hSw
    go_simp
    try with_reducible rfl
  simp only [Act.put, List.setIfInBounds_toArray, List.set_cons_zero, List.set_cons_succ]
  refine wpAnyH_take (i := 8) (oi := { dst := some 13, op := Op.load 54 (Operand.tmp 12), type := 54, pos := "ref.go:111", after := #[{ on := 7, ground := Ground.data }], guard := none }) (v := ?_) rfl (by kernel_rfl) (by kernel_rfl) (by kernel_rfl) (fun _ _ _ h => h) (Or.inl ⟨by rfl, ?_⟩) (by assumption) ?_
  rotate_left
  · intro W hSw
    obtain ⟨k0, k2⟩ := hSw
    go_simp
    try with_reducible rfl
  simp only [Act.put, List.setIfInBounds_toArray, List.set_cons_zero, List.set_cons_succ]
  refine wpAnyH_ready (rs := [4]) (by kernel_rfl) (by simp) (AllReadyH.cons (o := { dst := some 9, op := Op.buildSlice 54 0 #[], type := 54, pos := "ref.go:111", after := #[], guard := none }) rfl (fun K hK => ?_) AllReadyH.nil)
  have hbx : Below w1.heap.size w1 (w1.alloc (.cells #[] 93)) := (Below.refl _ _).alloc (Nat.le_refl _) _
  have HF0 : Hid (HOwn (w1.alloc (.cells #[] 93)) w.heap.size (.slice (some ⟨w1.heap.size, 0, none⟩) 0 0) 0 []) := HOwn.fresh w1 HB1.out.size rfl
  have HB2 := Lib.hid (stepB HB1.out hbx)
  have HK1 := Lib.hid (HK0.out.later hbx)
  have HSL : Hid (HSl (w1.alloc (.cells #[] 93)) AG L.length L) := (HDA.out.later HB2.out).giv.hsl
  clear hbx hHeld
  go_simp
  refine hK.out _ _ HK1.out (fun hHeld => ?_)
  clear hK K
  try simp only [Act.put, List.setIfInBounds_toArray, List.set_cons_zero, List.set_cons_succ]

  generalize w1.alloc (.cells #[] 93) = w2 at *
  obtain ⟨g2, hg2⟩ : ∃ g2, w1.heap.size = g2 := ⟨_, rfl⟩
  rw [hg2] at HF0
  rw [hg2]
  clear hg2
  refine wpAnyH_ready (rs := [9]) (by kernel_rfl) (by simp) (AllReadyH.cons (o := { dst := some 14, op := Op.call { callee := Callee.builtin Builtin.append, args := #[Operand.tmp 9, Operand.tmp 13], argTypes := #[54, 54] }, type := 54, pos := "ref.go:111", after := #[{ on := 4, ground := Ground.data }, { on := 8, ground := Ground.data }], guard := none }) rfl (fun K hK => ?_) AllReadyH.nil)
  refine step_append_hd rfl (.tmp 9) (.tmp 13) rfl w.heap.size (.slice (some ⟨g2, 0, none⟩) 0 0) 0 [] rfl HF0.out AG L.length cG L rfl HSL.out HNIL.out (by omega) HB2.out.size (fun v3 w3 ho3 hg3 => ?_)
  have hb3 : Below w.heap.size w w3 := HB2.out.grown hg3 HB2.out.size (fun j e => (HF0.out.lt j e).1)
  have HB3 := Lib.hid hb3
  rw [Nat.zero_add, List.nil_append] at ho3
  obtain ⟨A4, c4, rfl, _⟩ := ho3.sl
  have HO3 := Lib.hid ho3
  have hK3 : S2D q s (.slice AG L.length cG) w3 := ⟨(HDA.out.later hb3).blk.cell 0, (HDA.out.later hb3).blk.cell 2⟩
  have HK3 := Lib.hid hK3
  clear ho3 hg3 hb3 hK3
  refine hK.out _ _ HK3.out (fun hHeld2 => ?_)
  clear hK K hHeld
  try simp only [Act.put, List.setIfInBounds_toArray, List.set_cons_zero, List.set_cons_succ]

  have hbt := built56c (s : Int) A4 L.length c4
  refine wpAnyH_take (i := 10) (oi := { dst := some 15, op := Op.build 56 #[(0, Operand.tmp 8), (2, Operand.tmp 14)], type := 56, pos := "ref.go:111", after := #[{ on := 3, ground := Ground.data }, { on := 9, ground := Ground.data }], guard := none }) (v := .agg #[.int .i64 (s : Int), .slice none 0 0, .slice A4 L.length c4]) rfl (by kernel_rfl) (by kernel_rfl) (by kernel_rfl) (fun _ _ _ h => h) (Or.inl ⟨by rfl, fun W hSw => ?_⟩) hHeld2 ?_
  · clear hSw
    go_simp
    try with_reducible rfl
  try simp only [Act.put, List.setIfInBounds_toArray, List.set_cons_zero, List.set_cons_succ]

  refine wpAnyH_ready (rs := [11]) (by kernel_rfl) (by simp) (AllReadyH.cons (o := { dst := some 16, op := Op.box 56 (Operand.tmp 15), type := 45, pos := "ref.go:111", after := #[{ on := 10, ground := Ground.data }], guard := none }) rfl (fun K hK => ?_) AllReadyH.nil)
  have hbx : Below w3.heap.size w3 (w3.alloc (.cells #[.int .i64 (s : Int), .slice none 0 0, .slice A4 L.length c4] 56)) := (Below.refl _ _).alloc (Nat.le_refl _) _
  have HK4 := Lib.hid (HK3.out.later hbx)
  have HB4 := Lib.hid (stepB HB3.out hbx)
  have HOA : Hid (Da (w3.alloc (.cells #[.int .i64 (s : Int), .slice none 0 0, .slice A4 L.length c4] 56)) w.heap.size w3.heap.size s (.slice none 0 0) (.slice A4 L.length c4) [] L) :=
    ⟨HB3.out.size, Blk.new _ _ _, Ow.none _ _ _, HO3.out.later hbx, (fun x hx => by cases hx), List.Pairwise.nil⟩
  clear hbx hbt
  go_simp
  refine hK.out _ _ HK4.out (fun hHeld3 => ?_)
  clear hK K hHeld2
  try simp only [Act.put, List.setIfInBounds_toArray, List.set_cons_zero, List.set_cons_succ]

  refine wpAnyH_take (i := 12) (oi := { dst := some 3, op := Op.assign (Operand.tmp 16), type := 45, pos := "ref.go:111", after := #[{ on := 11, ground := Ground.data }, { on := 9, ground := Ground.chain }, { on := 0, ground := Ground.phase }, { on := 1, ground := Ground.phase }, { on := 2, ground := Ground.phase }, { on := 3, ground := Ground.phase }, { on := 4, ground := Ground.phase }, { on := 5, ground := Ground.phase }, { on := 6, ground := Ground.phase }, { on := 7, ground := Ground.phase }, { on := 8, ground := Ground.phase }, { on := 9, ground := Ground.phase }, { on := 10, ground := Ground.phase }, { on := 11, ground := Ground.phase }], guard := none }) (v := ?_) rfl (by kernel_rfl) (by kernel_rfl) (by kernel_rfl) (fun _ _ _ h => h) (Or.inl ⟨by rfl, ?_⟩) (by assumption) ?_
  rotate_left
  · intro W hSw
    clear hSw
    go_simp
    try with_reducible rfl
  simp only [Act.put, List.setIfInBounds_toArray, List.set_cons_zero, List.set_cons_succ]
  refine wpAnyH_done (by kernel_rfl) (NoPanic.normal ?_) _
  clear hHeld3
  generalize w3.alloc (.cells #[.int .i64 (s : Int), .slice none 0 0, .slice A4 L.length c4] 56) = w4 at *
  obtain ⟨oq, hoq⟩ : ∃ oq, w3.heap.size = oq := ⟨_, rfl⟩
  rw [hoq] at HOA
  rw [hoq]
  clear hoq HO3 HK0 HK1 HK3 HK4 HB2 HB1 HB3 HF0 HSL
  go_wp2
  go_loopw [4] (fun i wr => ∃ (k : Nat) (vO : Value) (DsO : List De), k ≤ Ds.length ∧ i = .int .i64 k ∧ Da wr w.heap.size oq s vO (.slice A4 L.length c4) DsO L ∧ DsO.map (fun d => d.P) = (Ds.map (fun d => d.P)).take k ∧ Below w.heap.size w wr) (fun i _ => Ds.length - (intOf i).toNat)
  case atStart => exact ⟨0, _, [], Nat.zero_le _, rfl, HOA.out, rfl, HB4.out⟩
  case round =>
    obtain ⟨w3, rfl⟩ : ∃ w3 : World, w3 = wr := ⟨_, rfl⟩
    obtain ⟨k, vO, DsO, hk, rfl, ho, hmo, hb⟩ := hrel
    have HOO := Lib.hid ho
    have HMO := Lib.hid hmo
    have HB4 := Lib.hid hb
    have c1 := (HDA.out.later hb).blk.cell 1
    simp only [List.getElem?_toArray, List.getElem?_cons_zero, List.getElem?_cons_succ] at c1
    clear ho hmo hb HOA
    by_cases hlt : k < Ds.length
    · have d1 : decide ((k : Int) < (Ds.length : Int)) = true := decide_eq_true (by omega)
      have wk : IntKind.i64.wrap ((k : Int) + 1) = (k : Int) + 1 := IntWalk.i64_in _ (by omega)
      obtain ⟨gr, c, hv, hc⟩ := HDA.out.at_ hlt
      cases hv
      have i5 := idx53 gr Ds.length cV k (k : Int) rfl hlt
      have HIV := Lib.hid (HINV.out k hlt)
      have HPG : Hid (∀ W, Below w.heap.size w W → (Ds[k]).ok W B s) := fun W hb => (HDA.out.later hb).pgs _ (List.getElem_mem hlt)
      have hln : DsO.length = k := by
        have := congrArg List.length HMO.out
        rw [List.length_map, List.length_take, List.length_map] at this
        omega
      have HLN := Lib.hid hln
      have HPE : Hid ((Ds.map (fun d => d.P)).take (k + 1) = (Ds.map (fun d => d.P)).take k ++ [(Ds[k]).P]) := by
        show _ = _
        rw [List.take_add_one, List.getElem?_map, List.getElem?_eq_getElem hlt]; rfl
      have hgr := lt_of_cell hc
      have HQQ : Hid (∀ W, Below w.heap.size w W → W.cell? ⟨q, 1, none⟩ = some (.slice (some ⟨gr, 0, none⟩) Ds.length cV) ∧ W.cell? ⟨gr, k, none⟩ = some (.pointer (some ⟨(Ds[k]).q, 0, none⟩))) := fun W hb => ⟨(HDA.out.later hb).blk.cell 1, (hb.cell (p := ⟨gr, k, none⟩) hgr).trans hc⟩
      obtain ⟨dd, hdd⟩ : ∃ dd, Ds[k] = dd := ⟨_, rfl⟩
      rw [hdd] at HIV HPG HPE HQQ hc
      obtain ⟨pp, bBs, bUs, bBk, bB, bU, bK, P⟩ := dd
      simp only at hc
      replace HPG : Hid (∀ W, Below w.heap.size w W → Dx W B pp s bBs bUs bBk bB bU bK ∧ Rel s P bBs bUs bBk) := HPG
      clear hgr hln hdd
      go_upto_region 5 with (fail)
      clear hc c1
      refine wp_region_noPanic ?_
      have hbd : Below w3.heap.size w3 w3.drew := Below.drew (Below.refl _ _)
      have HO5 := Lib.hid (HOO.out.later hbd)
      have HB5 := Lib.hid (stepB HB4.out hbd)
      clear hbd
      have HSO : Hid (∀ W v', Da W w.heap.size oq s v' (.slice A4 L.length c4) DsO L → Below w.heap.size w W → SQ2 oq q gr k (.slice (some ⟨gr, 0, none⟩) Ds.length cV) pp W) := fun W v' h hb => ⟨⟨oldc_of (h.blk.cell 1), h.blk.frozen 1⟩, HQQ.out W hb⟩
      have HSO2 : Hid (∀ W v' Ds', Da W w.heap.size oq s v' (.slice A4 L.length c4) Ds' L → Below w.heap.size w W → SQ2 oq q gr k (.slice (some ⟨gr, 0, none⟩) Ds.length cV) pp W) := fun W v' Ds' h hb => ⟨⟨oldc_of (h.blk.cell 1), h.blk.frozen 1⟩, HQQ.out W hb⟩
      refine wp_region_held_drew (S := SQ2 oq q gr k (.slice (some ⟨gr, 0, none⟩) Ds.length cV) pp) (by kernel_rfl) (HSO.out _ _ HO5.out HB5.out) (fun hHeld => ?_)
      generalize w3.drew = w5 at *
      refine wpAnyH_take (i := 0) (oi := { dst := some 26, op := Op.move (Operand.tmp 3), type := 45, pos := "ref.go:113", after := #[], guard := none }) (v := ?_) rfl (by kernel_rfl) (by kernel_rfl) (by kernel_rfl) (fun _ _ _ h => h) (Or.inl ⟨by rfl, ?_⟩) (by assumption) ?_
      rotate_left
      · intro W hSw
        clear hSw
        go_simp
        try with_reducible rfl
      simp only [Act.put, List.setIfInBounds_toArray, List.set_cons_zero, List.set_cons_succ]
      refine wpAnyH_take (i := 1) (oi := { dst := some 27, op := Op.move (Operand.tmp 3), type := 45, pos := "ref.go:113", after := #[], guard := none }) (v := ?_) rfl (by kernel_rfl) (by kernel_rfl) (by kernel_rfl) (fun _ _ _ h => h) (Or.inl ⟨by rfl, ?_⟩) (by assumption) ?_
      rotate_left
      · intro W hSw
        clear hSw
        go_simp
        try with_reducible rfl
      simp only [Act.put, List.setIfInBounds_toArray, List.set_cons_zero, List.set_cons_succ]
      refine wpAnyH_take (i := 2) (oi := { dst := some 28, op := Op.nilCheck (Operand.tmp 27), type := 0, pos := "ref.go:113", after := #[{ on := 1, ground := Ground.data }], guard := none }) (v := ?_) rfl (by kernel_rfl) (by kernel_rfl) (by kernel_rfl) (fun _ _ _ h => h) (Or.inl ⟨by rfl, ?_⟩) (by assumption) ?_
      rotate_left
      · intro W hSw
        clear hSw
        go_simp
        try with_reducible rfl
      simp only [Act.put, List.setIfInBounds_toArray, List.set_cons_zero, List.set_cons_succ]
      refine wpAnyH_take (i := 3) (oi := { dst := some 29, op := Op.fieldAddr 56 (Operand.tmp 28) 1, type := 0, pos := "ref.go:113", after := #[{ on := 2, ground := Ground.data }], guard := none }) (v := ?_) rfl (by kernel_rfl) (by kernel_rfl) (by kernel_rfl) (fun _ _ _ h => h) (Or.inl ⟨by rfl, ?_⟩) (by assumption) ?_
      rotate_left
      · intro W hSw
        clear hSw
        go_simp
        try with_reducible rfl
      simp only [Act.put, List.setIfInBounds_toArray, List.set_cons_zero, List.set_cons_succ]
      refine wpAnyH_take (i := 5) (oi := { dst := some 31, op := Op.move (Operand.tmp 0), type := 45, pos := "ref.go:113", after := #[], guard := none }) (v := ?_) rfl (by kernel_rfl) (by kernel_rfl) (by kernel_rfl) (fun _ _ _ h => h) (Or.inl ⟨by rfl, ?_⟩) (by assumption) ?_
      rotate_left
      · intro W hSw
        clear hSw
        go_simp
        try with_reducible rfl
      simp only [Act.put, List.setIfInBounds_toArray, List.set_cons_zero, List.set_cons_succ]
      refine wpAnyH_take (i := 6) (oi := { dst := some 32, op := Op.nilCheck (Operand.tmp 31), type := 0, pos := "ref.go:113", after := #[{ on := 5, ground := Ground.data }], guard := none }) (v := ?_) rfl (by kernel_rfl) (by kernel_rfl) (by kernel_rfl) (fun _ _ _ h => h) (Or.inl ⟨by rfl, ?_⟩) (by assumption) ?_
      rotate_left
      · intro W hSw
        obtain ⟨_, k1, k2⟩ := hSw
        go_simp
        try with_reducible rfl
      simp only [Act.put, List.setIfInBounds_toArray, List.set_cons_zero, List.set_cons_succ]
      refine wpAnyH_take (i := 7) (oi := { dst := some 33, op := Op.fieldAddr 56 (Operand.tmp 32) 1, type := 0, pos := "ref.go:113", after := #[{ on := 6, ground := Ground.data }], guard := none }) (v := ?_) rfl (by kernel_rfl) (by kernel_rfl) (by kernel_rfl) (fun _ _ _ h => h) (Or.inl ⟨by rfl, ?_⟩) (by assumption) ?_
      rotate_left
      · intro W hSw
        obtain ⟨_, k1, k2⟩ := hSw
        go_simp
        try with_reducible rfl
      simp only [Act.put, List.setIfInBounds_toArray, List.set_cons_zero, List.set_cons_succ]
      refine wpAnyH_take (i := 8) (oi := { dst := some 34, op := Op.load 53 (Operand.tmp 33), type := 53, pos := "ref.go:113", after := #[{ on := 7, ground := Ground.data }], guard := none }) (v := ?_) rfl (by kernel_rfl) (by kernel_rfl) (by kernel_rfl) (fun _ _ _ h => h) (Or.inl ⟨by rfl, ?_⟩) (by assumption) ?_
      rotate_left
      · intro W hSw
        obtain ⟨_, k1, k2⟩ := hSw
        go_simp
        try with_reducible rfl
      simp only [Act.put, List.setIfInBounds_toArray, List.set_cons_zero, List.set_cons_succ]
      refine wpAnyH_take (i := 9) (oi := { dst := some 35, op := Op.move (Operand.tmp 4), type := 3, pos := "ref.go:113", after := #[], guard := none }) (v := ?_) rfl (by kernel_rfl) (by kernel_rfl) (by kernel_rfl) (fun _ _ _ h => h) (Or.inl ⟨by rfl, ?_⟩) (by assumption) ?_
      rotate_left
      · intro W hSw
        obtain ⟨_, k1, k2⟩ := hSw
        go_simp
        try with_reducible rfl
      simp only [Act.put, List.setIfInBounds_toArray, List.set_cons_zero, List.set_cons_succ]
      refine wpAnyH_take (i := 10) (oi := { dst := some 36, op := Op.indexAddr 53 (Operand.tmp 34) (Operand.tmp 35), type := 0, pos := "ref.go:113", after := #[{ on := 8, ground := Ground.data }, { on := 9, ground := Ground.data }], guard := none }) (v := ?_) rfl (by kernel_rfl) (by kernel_rfl) (by kernel_rfl) (fun _ _ _ h => h) (Or.inl ⟨by rfl, ?_⟩) (by assumption) ?_
      rotate_left
      · intro W hSw
        obtain ⟨_, k1, k2⟩ := hSw
        go_simp
        try with_reducible rfl
      simp only [Act.put, List.setIfInBounds_toArray, List.set_cons_zero, List.set_cons_succ]
      refine wpAnyH_take (i := 11) (oi := { dst := some 37, op := Op.load 85 (Operand.tmp 36), type := 85, pos := "ref.go:113", after := #[{ on := 10, ground := Ground.data }], guard := none }) (v := ?_) rfl (by kernel_rfl) (by kernel_rfl) (by kernel_rfl) (fun _ _ _ h => h) (Or.inl ⟨by rfl, ?_⟩) (by assumption) ?_
      rotate_left
      · intro W hSw
        obtain ⟨_, k1, k2⟩ := hSw
        go_simp
        try with_reducible rfl
      simp only [Act.put, List.setIfInBounds_toArray, List.set_cons_zero, List.set_cons_succ]
      refine wpAnyH_ready (rs := [4, 12]) (by kernel_rfl) (by simp) (AllReadyH.cons (o := { dst := some 30, op := Op.load 53 (Operand.tmp 29), type := 53, pos := "ref.go:113", after := #[{ on := 3, ground := Ground.data }], guard := none }) rfl (fun K hK => ?_) (AllReadyH.cons (o := { dst := some 38, op := Op.call { callee := Callee.value (Operand.func 46), args := #[Operand.tmp 37], argTypes := #[85] }, type := 85, pos := "ref.go:113", after := #[{ on := 11, ground := Ground.data }], guard := none }) rfl (fun K hK => ?_) AllReadyH.nil))
      rotate_left
      · refine step_callw (by rfl) 46 #[.pointer (some ⟨pp, 0, none⟩)] (by go_simp) ?_
        refine (dcopy_any B pp s P bBs bUs bBk bB bU bK w5 (HPG.out _ HB5.out).1 (HPG.out _ HB5.out).2 HIV.out h4).mono ?_
        rintro z w6 ⟨q2, nBs, nUs, nBk, nB, nU, nK, rfl, hdx, hrl, hb⟩
        have HPQ : Hid ((⟨q2, nBs, nUs, nBk, nB, nU, nK, P⟩ : De).ok w6 w5.heap.size s) := ⟨hdx, hrl⟩
        have HZQ : Hid (∀ e ∈ DsO, ∀ k, e.own3 k → k < w5.heap.size) := fun e he k hk => by
          obtain ⟨i, hi, rfl⟩ := List.getElem_of_mem he
          exact HO5.out.lt3 hi k hk
        have HZG : Hid (w.heap.size ≤ w5.heap.size) := HB5.out.size
        replace HO5 := Lib.hid (HO5.out.later hb)
        replace HB5 := Lib.hid (stepB HB5.out hb)
        clear hdx hrl hb
        refine ⟨_, rfl, hK.out _ _ (HSO.out _ _ HO5.out HB5.out) (fun hHeld2 => ?_)⟩
        clear hK K hHeld
        have hHeld := hHeld2
        clear hHeld2
        try simp only [Act.put, List.setIfInBounds_toArray, List.set_cons_zero, List.set_cons_succ]
        obtain ⟨z5, hz5⟩ : ∃ z5, w5.heap.size = z5 := ⟨_, rfl⟩
        rw [hz5] at HPQ HZQ HZG
        clear hz5
        obtain ⟨w5, hw5⟩ : ∃ x, w6 = x := ⟨_, rfl⟩
        subst hw5
        refine wpAnyH_ready (rs := [4, 13]) (by kernel_rfl) (by simp) (AllReadyH.cons (o := { dst := some 30, op := Op.load 53 (Operand.tmp 29), type := 53, pos := "ref.go:113", after := #[{ on := 3, ground := Ground.data }], guard := none }) rfl (fun K hK => ?_) (AllReadyH.cons (o := { dst := some 39, op := Op.buildSlice 53 1 #[(0, Operand.tmp 38)], type := 53, pos := "ref.go:113", after := #[{ on := 12, ground := Ground.data }], guard := none }) rfl (fun K hK => ?_) AllReadyH.nil))
        rotate_left
        · have hbx : Below w6.heap.size w6 (w6.alloc (.cells #[.pointer (some ⟨q2, 0, none⟩)] 85)) := (Below.refl _ _).alloc (Nat.le_refl _) _
          have HX : Hid (Sl pv (w6.alloc (.cells #[.pointer (some ⟨q2, 0, none⟩)] 85)) (some ⟨w6.heap.size, 0, none⟩) 1 1 [q2]) := Blk.sl (enc := pv) (xs := [q2]) (Blk.new w6 #[.pointer (some ⟨q2, 0, none⟩)] 85)
          replace HO5 := Lib.hid (HO5.out.later hbx)
          replace HB5 := Lib.hid (stepB HB5.out hbx)
          replace HPQ := Lib.hid (De.kept HPQ.out hbx.size (fun k hk => hbx.block k (De.lt HPQ.out k hk)))
          clear hbx
          go_simp
          refine hK.out _ _ (HSO.out _ _ HO5.out HB5.out) (fun hHeld2 => ?_)
          clear hK K
          try clear hHeld
          have hHeld := hHeld2
          clear hHeld2
          try simp only [Act.put, List.setIfInBounds_toArray, List.set_cons_zero, List.set_cons_succ]
          generalize w6.alloc (.cells #[.pointer (some ⟨q2, 0, none⟩)] 85) = w7 at *
          generalize w6.heap.size = xq at *
          refine wpAnyH_ready (rs := [4]) (by kernel_rfl) (by simp) (AllReadyH.cons (o := { dst := some 30, op := Op.load 53 (Operand.tmp 29), type := 53, pos := "ref.go:113", after := #[{ on := 3, ground := Ground.data }], guard := none }) rfl (fun K hK => ?_) AllReadyH.nil)
          have c1 := HO5.out.blk.cell 1
          simp only [List.getElem?_toArray, List.getElem?_cons_zero, List.getElem?_cons_succ] at c1
          clear hHeld
          go_simp
          clear c1
          refine hK.out _ _ (HSO.out _ _ HO5.out HB5.out) (fun hHeld2 => ?_)
          clear hK K
          try clear hHeld
          have hHeld := hHeld2
          clear hHeld2
          try simp only [Act.put, List.setIfInBounds_toArray, List.set_cons_zero, List.set_cons_succ]
          have HRW : Hid (Ow pv w7 w.heap.size 85 vO k (DsO.map (fun d : De => d.q))) := Lib.hid (by have := HO5.out.row; rw [HLN.out] at this; exact this)
          refine wpAnyH_ready (rs := [14]) (by kernel_rfl) (by simp) (AllReadyH.cons (o := { dst := some 40, op := Op.call { callee := Callee.builtin Builtin.append, args := #[Operand.tmp 30, Operand.tmp 39], argTypes := #[53, 53] }, type := 53, pos := "ref.go:113", after := #[{ on := 4, ground := Ground.data }, { on := 13, ground := Ground.data }, { on := 12, ground := Ground.chain }], guard := none }) rfl (fun K hK => ?_) AllReadyH.nil)
          refine step_append_sl elemQ rfl (.tmp 30) (.tmp 39) rfl w.heap.size vO k (DsO.map (fun d : De => d.q)) rfl HRW.out (some ⟨xq, 0, none⟩) 1 1 [q2] rfl HX.out (by omega) (by decide) HB5.out.size (fun v8 w8 ho8 hg8 => ?_)
          obtain ⟨A8, c8, rfl, _⟩ := Ow.sl ho8
          have hm := HO5.out.grow hg8 (De.base HPQ.out HZG.out) (fun k hk e he he2 => by have h1 := De.ge HPQ.out k hk; have h2 := HZQ.out e he k he2; omega) (by rw [HLN.out]) ho8
          have HM1 := Lib.hid hm.1
          have HM2 := Lib.hid hm.2
          have hlt8 := fun j hj => (Ow.lt HRW.out j hj).1
          have HB8 : Hid (Below w.heap.size w w8) := Lib.hid (Below.grown HB5.out hg8 HB5.out.size hlt8)
          have HOQ : Hid (w.heap.size ≤ oq) := Lib.hid HO5.out.hq
          clear hm ho8 hg8 hlt8
          refine hK.out _ _ ⟨⟨oldc_of (HM1.out.cell 1), HM1.out.frozen 1⟩, HQQ.out _ HB8.out⟩ (fun hHeld2 => ?_)
          clear hK K hHeld
          have hHeld := hHeld2
          clear hHeld2
          try simp only [Act.put, List.setIfInBounds_toArray, List.set_cons_zero, List.set_cons_succ]
          refine wpAnyH_take (i := 15) (oi := { dst := some 41, op := Op.nilCheck (Operand.tmp 26), type := 0, pos := "ref.go:113", after := #[{ on := 0, ground := Ground.data }, { on := 0, ground := Ground.phase }, { on := 1, ground := Ground.phase }, { on := 2, ground := Ground.phase }, { on := 3, ground := Ground.phase }, { on := 4, ground := Ground.phase }, { on := 5, ground := Ground.phase }, { on := 6, ground := Ground.phase }, { on := 7, ground := Ground.phase }, { on := 8, ground := Ground.phase }, { on := 9, ground := Ground.phase }, { on := 10, ground := Ground.phase }, { on := 11, ground := Ground.phase }, { on := 12, ground := Ground.phase }, { on := 13, ground := Ground.phase }, { on := 14, ground := Ground.phase }], guard := none }) (v := ?_) rfl (by kernel_rfl) (by kernel_rfl) (by kernel_rfl) (fun _ _ _ h => h) (Or.inl ⟨by rfl, ?_⟩) (by assumption) ?_
          rotate_left
          · intro W hSw
            clear hSw
            go_simp
            try with_reducible rfl
          simp only [Act.put, List.setIfInBounds_toArray, List.set_cons_zero, List.set_cons_succ]
          refine wpAnyH_take (i := 16) (oi := { dst := some 42, op := Op.fieldAddr 56 (Operand.tmp 41) 1, type := 0, pos := "ref.go:113", after := #[{ on := 15, ground := Ground.data }, { on := 0, ground := Ground.phase }, { on := 1, ground := Ground.phase }, { on := 2, ground := Ground.phase }, { on := 3, ground := Ground.phase }, { on := 4, ground := Ground.phase }, { on := 5, ground := Ground.phase }, { on := 6, ground := Ground.phase }, { on := 7, ground := Ground.phase }, { on := 8, ground := Ground.phase }, { on := 9, ground := Ground.phase }, { on := 10, ground := Ground.phase }, { on := 11, ground := Ground.phase }, { on := 12, ground := Ground.phase }, { on := 13, ground := Ground.phase }, { on := 14, ground := Ground.phase }], guard := none }) (v := ?_) rfl (by kernel_rfl) (by kernel_rfl) (by kernel_rfl) (fun _ _ _ h => h) (Or.inl ⟨by rfl, ?_⟩) (by assumption) ?_
          rotate_left
          · intro W hSw
            clear hSw
            go_simp
            try with_reducible rfl
          simp only [Act.put, List.setIfInBounds_toArray, List.set_cons_zero, List.set_cons_succ]
          refine wpAnyH_ready (rs := [17]) (by kernel_rfl) (by simp) (AllReadyH.cons (o := { dst := none, op := Op.store 53 (Operand.tmp 42) (Operand.tmp 40), type := 0, pos := "ref.go:113", after := #[{ on := 16, ground := Ground.data }, { on := 14, ground := Ground.data }, { on := 14, ground := Ground.chain }, { on := 0, ground := Ground.phase }, { on := 1, ground := Ground.phase }, { on := 2, ground := Ground.phase }, { on := 3, ground := Ground.phase }, { on := 4, ground := Ground.phase }, { on := 5, ground := Ground.phase }, { on := 6, ground := Ground.phase }, { on := 7, ground := Ground.phase }, { on := 8, ground := Ground.phase }, { on := 9, ground := Ground.phase }, { on := 10, ground := Ground.phase }, { on := 11, ground := Ground.phase }, { on := 12, ground := Ground.phase }, { on := 13, ground := Ground.phase }, { on := 14, ground := Ground.phase }], guard := none }) rfl (fun K hK => ?_) AllReadyH.nil)
          clear hHeld
          have HB9 := Lib.hid (Below.setCell (p := ⟨oq, 1, none⟩) HB8.out HOQ.out (.slice A8 (k + 1) c8))
          have q1 := HM1.out.cell 1
          have qf := HM1.out.frozen 1
          simp only [List.getElem?_toArray, List.getElem?_cons_zero, List.getElem?_cons_succ] at q1
          go_simp
          refine hK.out _ _ (HSO2.out _ _ _ HM2.out HB9.out) (fun hHeld2 => ?_)
          clear hK K q1 qf
          refine wpAnyH_done (by kernel_rfl) (NoPanic.normal ?_) _
          clear hHeld2
          have HMN : Hid ((DsO ++ [(⟨q2, nBs, nUs, nBk, nB, nU, nK, P⟩ : De)]).map (fun d => d.P) = (Ds.map (fun d => d.P)).take (k + 1)) := by
            show _ = _
            rw [HPE.out, List.map_append, HMO.out]; rfl
          go_wp2
          go_roundw
          case rel => exact ⟨k + 1, _, _, by omega, by go_num, HM2.out, HMN.out, HB9.out⟩
          case measure => simp [intOf]; omega
        · have c1 := HO5.out.blk.cell 1
          simp only [List.getElem?_toArray, List.getElem?_cons_zero, List.getElem?_cons_succ] at c1
          clear hHeld
          go_simp
          clear c1
          refine hK.out _ _ (HSO.out _ _ HO5.out HB5.out) (fun hHeld2 => ?_)
          clear hK K
          try clear hHeld
          have hHeld := hHeld2
          clear hHeld2
          try simp only [Act.put, List.setIfInBounds_toArray, List.set_cons_zero, List.set_cons_succ]
          refine wpAnyH_ready (rs := [13]) (by kernel_rfl) (by simp) (AllReadyH.cons (o := { dst := some 39, op := Op.buildSlice 53 1 #[(0, Operand.tmp 38)], type := 53, pos := "ref.go:113", after := #[{ on := 12, ground := Ground.data }], guard := none }) rfl (fun K hK => ?_) AllReadyH.nil)
          have hbx : Below w6.heap.size w6 (w6.alloc (.cells #[.pointer (some ⟨q2, 0, none⟩)] 85)) := (Below.refl _ _).alloc (Nat.le_refl _) _
          have HX : Hid (Sl pv (w6.alloc (.cells #[.pointer (some ⟨q2, 0, none⟩)] 85)) (some ⟨w6.heap.size, 0, none⟩) 1 1 [q2]) := Blk.sl (enc := pv) (xs := [q2]) (Blk.new w6 #[.pointer (some ⟨q2, 0, none⟩)] 85)
          replace HO5 := Lib.hid (HO5.out.later hbx)
          replace HB5 := Lib.hid (stepB HB5.out hbx)
          replace HPQ := Lib.hid (De.kept HPQ.out hbx.size (fun k hk => hbx.block k (De.lt HPQ.out k hk)))
          clear hbx
          go_simp
          refine hK.out _ _ (HSO.out _ _ HO5.out HB5.out) (fun hHeld2 => ?_)
          clear hK K
          try clear hHeld
          have hHeld := hHeld2
          clear hHeld2
          try simp only [Act.put, List.setIfInBounds_toArray, List.set_cons_zero, List.set_cons_succ]
          generalize w6.alloc (.cells #[.pointer (some ⟨q2, 0, none⟩)] 85) = w7 at *
          generalize w6.heap.size = xq at *
          have HRW : Hid (Ow pv w7 w.heap.size 85 vO k (DsO.map (fun d : De => d.q))) := Lib.hid (by have := HO5.out.row; rw [HLN.out] at this; exact this)
          refine wpAnyH_ready (rs := [14]) (by kernel_rfl) (by simp) (AllReadyH.cons (o := { dst := some 40, op := Op.call { callee := Callee.builtin Builtin.append, args := #[Operand.tmp 30, Operand.tmp 39], argTypes := #[53, 53] }, type := 53, pos := "ref.go:113", after := #[{ on := 4, ground := Ground.data }, { on := 13, ground := Ground.data }, { on := 12, ground := Ground.chain }], guard := none }) rfl (fun K hK => ?_) AllReadyH.nil)
          refine step_append_sl elemQ rfl (.tmp 30) (.tmp 39) rfl w.heap.size vO k (DsO.map (fun d : De => d.q)) rfl HRW.out (some ⟨xq, 0, none⟩) 1 1 [q2] rfl HX.out (by omega) (by decide) HB5.out.size (fun v8 w8 ho8 hg8 => ?_)
          obtain ⟨A8, c8, rfl, _⟩ := Ow.sl ho8
          have hm := HO5.out.grow hg8 (De.base HPQ.out HZG.out) (fun k hk e he he2 => by have h1 := De.ge HPQ.out k hk; have h2 := HZQ.out e he k he2; omega) (by rw [HLN.out]) ho8
          have HM1 := Lib.hid hm.1
          have HM2 := Lib.hid hm.2
          have hlt8 := fun j hj => (Ow.lt HRW.out j hj).1
          have HB8 : Hid (Below w.heap.size w w8) := Lib.hid (Below.grown HB5.out hg8 HB5.out.size hlt8)
          have HOQ : Hid (w.heap.size ≤ oq) := Lib.hid HO5.out.hq
          clear hm ho8 hg8 hlt8
          refine hK.out _ _ ⟨⟨oldc_of (HM1.out.cell 1), HM1.out.frozen 1⟩, HQQ.out _ HB8.out⟩ (fun hHeld2 => ?_)
          clear hK K hHeld
          have hHeld := hHeld2
          clear hHeld2
          try simp only [Act.put, List.setIfInBounds_toArray, List.set_cons_zero, List.set_cons_succ]
          refine wpAnyH_take (i := 15) (oi := { dst := some 41, op := Op.nilCheck (Operand.tmp 26), type := 0, pos := "ref.go:113", after := #[{ on := 0, ground := Ground.data }, { on := 0, ground := Ground.phase }, { on := 1, ground := Ground.phase }, { on := 2, ground := Ground.phase }, { on := 3, ground := Ground.phase }, { on := 4, ground := Ground.phase }, { on := 5, ground := Ground.phase }, { on := 6, ground := Ground.phase }, { on := 7, ground := Ground.phase }, { on := 8, ground := Ground.phase }, { on := 9, ground := Ground.phase }, { on := 10, ground := Ground.phase }, { on := 11, ground := Ground.phase }, { on := 12, ground := Ground.phase }, { on := 13, ground := Ground.phase }, { on := 14, ground := Ground.phase }], guard := none }) (v := ?_) rfl (by kernel_rfl) (by kernel_rfl) (by kernel_rfl) (fun _ _ _ h => h) (Or.inl ⟨by rfl, ?_⟩) (by assumption) ?_
          rotate_left
          · intro W hSw
            clear hSw
            go_simp
            try with_reducible rfl
          simp only [Act.put, List.setIfInBounds_toArray, List.set_cons_zero, List.set_cons_succ]
          refine wpAnyH_take (i := 16) (oi := { dst := some 42, op := Op.fieldAddr 56 (Operand.tmp 41) 1, type := 0, pos := "ref.go:113", after := #[{ on := 15, ground := Ground.data }, { on := 0, ground := Ground.phase }, { on := 1, ground := Ground.phase }, { on := 2, ground := Ground.phase }, { on := 3, ground := Ground.phase }, { on := 4, ground := Ground.phase }, { on := 5, ground := Ground.phase }, { on := 6, ground := Ground.phase }, { on := 7, ground := Ground.phase }, { on := 8, ground := Ground.phase }, { on := 9, ground := Ground.phase }, { on := 10, ground := Ground.phase }, { on := 11, ground := Ground.phase }, { on := 12, ground := Ground.phase }, { on := 13, ground := Ground.phase }, { on := 14, ground := Ground.phase }], guard := none }) (v := ?_) rfl (by kernel_rfl) (by kernel_rfl) (by kernel_rfl) (fun _ _ _ h => h) (Or.inl ⟨by rfl, ?_⟩) (by assumption) ?_
          rotate_left
          · intro W hSw
            clear hSw
            go_simp
            try with_reducible rfl
          simp only [Act.put, List.setIfInBounds_toArray, List.set_cons_zero, List.set_cons_succ]
          refine wpAnyH_ready (rs := [17]) (by kernel_rfl) (by simp) (AllReadyH.cons (o := { dst := none, op := Op.store 53 (Operand.tmp 42) (Operand.tmp 40), type := 0, pos := "ref.go:113", after := #[{ on := 16, ground := Ground.data }, { on := 14, ground := Ground.data }, { on := 14, ground := Ground.chain }, { on := 0, ground := Ground.phase }, { on := 1, ground := Ground.phase }, { on := 2, ground := Ground.phase }, { on := 3, ground := Ground.phase }, { on := 4, ground := Ground.phase }, { on := 5, ground := Ground.phase }, { on := 6, ground := Ground.phase }, { on := 7, ground := Ground.phase }, { on := 8, ground := Ground.phase }, { on := 9, ground := Ground.phase }, { on := 10, ground := Ground.phase }, { on := 11, ground := Ground.phase }, { on := 12, ground := Ground.phase }, { on := 13, ground := Ground.phase }, { on := 14, ground := Ground.phase }], guard := none }) rfl (fun K hK => ?_) AllReadyH.nil)
          clear hHeld
          have HB9 := Lib.hid (Below.setCell (p := ⟨oq, 1, none⟩) HB8.out HOQ.out (.slice A8 (k + 1) c8))
          have q1 := HM1.out.cell 1
          have qf := HM1.out.frozen 1
          simp only [List.getElem?_toArray, List.getElem?_cons_zero, List.getElem?_cons_succ] at q1
          go_simp
          refine hK.out _ _ (HSO2.out _ _ _ HM2.out HB9.out) (fun hHeld2 => ?_)
          clear hK K q1 qf
          refine wpAnyH_done (by kernel_rfl) (NoPanic.normal ?_) _
          clear hHeld2
          have HMN : Hid ((DsO ++ [(⟨q2, nBs, nUs, nBk, nB, nU, nK, P⟩ : De)]).map (fun d => d.P) = (Ds.map (fun d => d.P)).take (k + 1)) := by
            show _ = _
            rw [HPE.out, List.map_append, HMO.out]; rfl
          go_wp2
          go_roundw
          case rel => exact ⟨k + 1, _, _, by omega, by go_num, HM2.out, HMN.out, HB9.out⟩
          case measure => simp [intOf]; omega
      · have c1 := HO5.out.blk.cell 1
        simp only [List.getElem?_toArray, List.getElem?_cons_zero, List.getElem?_cons_succ] at c1
        clear hHeld
        go_simp
        clear c1
        refine hK.out _ _ (HSO.out _ _ HO5.out HB5.out) (fun hHeld2 => ?_)
        clear hK K
        try clear hHeld
        have hHeld := hHeld2
        clear hHeld2
        try simp only [Act.put, List.setIfInBounds_toArray, List.set_cons_zero, List.set_cons_succ]
        refine wpAnyH_ready (rs := [12]) (by kernel_rfl) (by simp) (AllReadyH.cons (o := { dst := some 38, op := Op.call { callee := Callee.value (Operand.func 46), args := #[Operand.tmp 37], argTypes := #[85] }, type := 85, pos := "ref.go:113", after := #[{ on := 11, ground := Ground.data }], guard := none }) rfl (fun K hK => ?_) AllReadyH.nil)
        refine step_callw (by rfl) 46 #[.pointer (some ⟨pp, 0, none⟩)] (by go_simp) ?_
        refine (dcopy_any B pp s P bBs bUs bBk bB bU bK w5 (HPG.out _ HB5.out).1 (HPG.out _ HB5.out).2 HIV.out h4).mono ?_
        rintro z w6 ⟨q2, nBs, nUs, nBk, nB, nU, nK, rfl, hdx, hrl, hb⟩
        have HPQ : Hid ((⟨q2, nBs, nUs, nBk, nB, nU, nK, P⟩ : De).ok w6 w5.heap.size s) := ⟨hdx, hrl⟩
        have HZQ : Hid (∀ e ∈ DsO, ∀ k, e.own3 k → k < w5.heap.size) := fun e he k hk => by
          obtain ⟨i, hi, rfl⟩ := List.getElem_of_mem he
          exact HO5.out.lt3 hi k hk
        have HZG : Hid (w.heap.size ≤ w5.heap.size) := HB5.out.size
        replace HO5 := Lib.hid (HO5.out.later hb)
        replace HB5 := Lib.hid (stepB HB5.out hb)
        clear hdx hrl hb
        refine ⟨_, rfl, hK.out _ _ (HSO.out _ _ HO5.out HB5.out) (fun hHeld2 => ?_)⟩
        clear hK K hHeld
        have hHeld := hHeld2
        clear hHeld2
        try simp only [Act.put, List.setIfInBounds_toArray, List.set_cons_zero, List.set_cons_succ]
        obtain ⟨z5, hz5⟩ : ∃ z5, w5.heap.size = z5 := ⟨_, rfl⟩
        rw [hz5] at HPQ HZQ HZG
        clear hz5
        obtain ⟨w5, hw5⟩ : ∃ x, w6 = x := ⟨_, rfl⟩
        subst hw5
        refine wpAnyH_ready (rs := [13]) (by kernel_rfl) (by simp) (AllReadyH.cons (o := { dst := some 39, op := Op.buildSlice 53 1 #[(0, Operand.tmp 38)], type := 53, pos := "ref.go:113", after := #[{ on := 12, ground := Ground.data }], guard := none }) rfl (fun K hK => ?_) AllReadyH.nil)
        have hbx : Below w6.heap.size w6 (w6.alloc (.cells #[.pointer (some ⟨q2, 0, none⟩)] 85)) := (Below.refl _ _).alloc (Nat.le_refl _) _
        have HX : Hid (Sl pv (w6.alloc (.cells #[.pointer (some ⟨q2, 0, none⟩)] 85)) (some ⟨w6.heap.size, 0, none⟩) 1 1 [q2]) := Blk.sl (enc := pv) (xs := [q2]) (Blk.new w6 #[.pointer (some ⟨q2, 0, none⟩)] 85)
        replace HO5 := Lib.hid (HO5.out.later hbx)
        replace HB5 := Lib.hid (stepB HB5.out hbx)
        replace HPQ := Lib.hid (De.kept HPQ.out hbx.size (fun k hk => hbx.block k (De.lt HPQ.out k hk)))
        clear hbx
        go_simp
        refine hK.out _ _ (HSO.out _ _ HO5.out HB5.out) (fun hHeld2 => ?_)
        clear hK K
        try clear hHeld
        have hHeld := hHeld2
        clear hHeld2
        try simp only [Act.put, List.setIfInBounds_toArray, List.set_cons_zero, List.set_cons_succ]
        generalize w6.alloc (.cells #[.pointer (some ⟨q2, 0, none⟩)] 85) = w7 at *
        generalize w6.heap.size = xq at *
        have HRW : Hid (Ow pv w7 w.heap.size 85 vO k (DsO.map (fun d : De => d.q))) := Lib.hid (by have := HO5.out.row; rw [HLN.out] at this; exact this)
        refine wpAnyH_ready (rs := [14]) (by kernel_rfl) (by simp) (AllReadyH.cons (o := { dst := some 40, op := Op.call { callee := Callee.builtin Builtin.append, args := #[Operand.tmp 30, Operand.tmp 39], argTypes := #[53, 53] }, type := 53, pos := "ref.go:113", after := #[{ on := 4, ground := Ground.data }, { on := 13, ground := Ground.data }, { on := 12, ground := Ground.chain }], guard := none }) rfl (fun K hK => ?_) AllReadyH.nil)
        refine step_append_sl elemQ rfl (.tmp 30) (.tmp 39) rfl w.heap.size vO k (DsO.map (fun d : De => d.q)) rfl HRW.out (some ⟨xq, 0, none⟩) 1 1 [q2] rfl HX.out (by omega) (by decide) HB5.out.size (fun v8 w8 ho8 hg8 => ?_)
        obtain ⟨A8, c8, rfl, _⟩ := Ow.sl ho8
        have hm := HO5.out.grow hg8 (De.base HPQ.out HZG.out) (fun k hk e he he2 => by have h1 := De.ge HPQ.out k hk; have h2 := HZQ.out e he k he2; omega) (by rw [HLN.out]) ho8
        have HM1 := Lib.hid hm.1
        have HM2 := Lib.hid hm.2
        have hlt8 := fun j hj => (Ow.lt HRW.out j hj).1
        have HB8 : Hid (Below w.heap.size w w8) := Lib.hid (Below.grown HB5.out hg8 HB5.out.size hlt8)
        have HOQ : Hid (w.heap.size ≤ oq) := Lib.hid HO5.out.hq
        clear hm ho8 hg8 hlt8
        refine hK.out _ _ ⟨⟨oldc_of (HM1.out.cell 1), HM1.out.frozen 1⟩, HQQ.out _ HB8.out⟩ (fun hHeld2 => ?_)
        clear hK K hHeld
        have hHeld := hHeld2
        clear hHeld2
        try simp only [Act.put, List.setIfInBounds_toArray, List.set_cons_zero, List.set_cons_succ]
        refine wpAnyH_take (i := 15) (oi := { dst := some 41, op := Op.nilCheck (Operand.tmp 26), type := 0, pos := "ref.go:113", after := #[{ on := 0, ground := Ground.data }, { on := 0, ground := Ground.phase }, { on := 1, ground := Ground.phase }, { on := 2, ground := Ground.phase }, { on := 3, ground := Ground.phase }, { on := 4, ground := Ground.phase }, { on := 5, ground := Ground.phase }, { on := 6, ground := Ground.phase }, { on := 7, ground := Ground.phase }, { on := 8, ground := Ground.phase }, { on := 9, ground := Ground.phase }, { on := 10, ground := Ground.phase }, { on := 11, ground := Ground.phase }, { on := 12, ground := Ground.phase }, { on := 13, ground := Ground.phase }, { on := 14, ground := Ground.phase }], guard := none }) (v := ?_) rfl (by kernel_rfl) (by kernel_rfl) (by kernel_rfl) (fun _ _ _ h => h) (Or.inl ⟨by rfl, ?_⟩) (by assumption) ?_
        rotate_left
        · intro W hSw
          clear hSw
          go_simp
          try with_reducible rfl
        simp only [Act.put, List.setIfInBounds_toArray, List.set_cons_zero, List.set_cons_succ]
        refine wpAnyH_take (i := 16) (oi := { dst := some 42, op := Op.fieldAddr 56 (Operand.tmp 41) 1, type := 0, pos := "ref.go:113", after := #[{ on := 15, ground := Ground.data }, { on := 0, ground := Ground.phase }, { on := 1, ground := Ground.phase }, { on := 2, ground := Ground.phase }, { on := 3, ground := Ground.phase }, { on := 4, ground := Ground.phase }, { on := 5, ground := Ground.phase }, { on := 6, ground := Ground.phase }, { on := 7, ground := Ground.phase }, { on := 8, ground := Ground.phase }, { on := 9, ground := Ground.phase }, { on := 10, ground := Ground.phase }, { on := 11, ground := Ground.phase }, { on := 12, ground := Ground.phase }, { on := 13, ground := Ground.phase }, { on := 14, ground := Ground.phase }], guard := none }) (v := ?_) rfl (by kernel_rfl) (by kernel_rfl) (by kernel_rfl) (fun _ _ _ h => h) (Or.inl ⟨by rfl, ?_⟩) (by assumption) ?_
        rotate_left
        · intro W hSw
          clear hSw
          go_simp
          try with_reducible rfl
        simp only [Act.put, List.setIfInBounds_toArray, List.set_cons_zero, List.set_cons_succ]
        refine wpAnyH_ready (rs := [17]) (by kernel_rfl) (by simp) (AllReadyH.cons (o := { dst := none, op := Op.store 53 (Operand.tmp 42) (Operand.tmp 40), type := 0, pos := "ref.go:113", after := #[{ on := 16, ground := Ground.data }, { on := 14, ground := Ground.data }, { on := 14, ground := Ground.chain }, { on := 0, ground := Ground.phase }, { on := 1, ground := Ground.phase }, { on := 2, ground := Ground.phase }, { on := 3, ground := Ground.phase }, { on := 4, ground := Ground.phase }, { on := 5, ground := Ground.phase }, { on := 6, ground := Ground.phase }, { on := 7, ground := Ground.phase }, { on := 8, ground := Ground.phase }, { on := 9, ground := Ground.phase }, { on := 10, ground := Ground.phase }, { on := 11, ground := Ground.phase }, { on := 12, ground := Ground.phase }, { on := 13, ground := Ground.phase }, { on := 14, ground := Ground.phase }], guard := none }) rfl (fun K hK => ?_) AllReadyH.nil)
        clear hHeld
        have HB9 := Lib.hid (Below.setCell (p := ⟨oq, 1, none⟩) HB8.out HOQ.out (.slice A8 (k + 1) c8))
        have q1 := HM1.out.cell 1
        have qf := HM1.out.frozen 1
        simp only [List.getElem?_toArray, List.getElem?_cons_zero, List.getElem?_cons_succ] at q1
        go_simp
        refine hK.out _ _ (HSO2.out _ _ _ HM2.out HB9.out) (fun hHeld2 => ?_)
        clear hK K q1 qf
        refine wpAnyH_done (by kernel_rfl) (NoPanic.normal ?_) _
        clear hHeld2
        have HMN : Hid ((DsO ++ [(⟨q2, nBs, nUs, nBk, nB, nU, nK, P⟩ : De)]).map (fun d => d.P) = (Ds.map (fun d => d.P)).take (k + 1)) := by
          show _ = _
          rw [HPE.out, List.map_append, HMO.out]; rfl
        go_wp2
        go_roundw
        case rel => exact ⟨k + 1, _, _, by omega, by go_num, HM2.out, HMN.out, HB9.out⟩
        case measure => simp [intOf]; omega
    · obtain rfl : k = Ds.length := by omega
      have d1 : decide ((Ds.length : Int) < (Ds.length : Int)) = false := decide_eq_false (by omega)
      have hts : DsO.map (fun d => d.P) = st.2.1 := by
        rw [HMO.out, ← HM.out, List.take_of_length_le (by rw [List.length_map]; exact Nat.le_refl _)]
      have HTS := Lib.hid hts
      clear hts
      go_wp2
      go_ret
      exact ⟨oq, _, rfl, ⟨_, _, DsO, L, HOO.out, HTS.out, HFIN.out, HRG.out, HLL.out, rfl⟩, HB4.out⟩
end Go.Proofs.Ytbnbhhmgfogjeaa
