/- find; Is, Read, Write, Free. -/
import Derived.Test.YtbnbhhmgfogjeaaGF
namespace Go.Proofs.Ytbnbhhmgfogjeaa
open Go.ChangeShapes Go.WideShapes Go.ChangeAt Go.RowKit Go.Maps
set_option linter.unusedVariables false
set_option linter.unusedSimpArgs false

theorem look69 {w : World} {B b : Nat} {G : List gn.Ct} {z : Int} (h : gn.MapAt w B b G) (ok : gn.Ok G) (hz : gn.rg z) : (Instr.lookup 69 (.map (some b)) (gn.nmv z) false).run Try.prog w = .ok (.int .u32 (gn.ofC G z)) w := by
  obtain ⟨c, hrun, hat, _⟩ := h.2.lookup_int gn.law74 Try.underlying69 Try.underlying42 (gn.zero42 _) (gn.key_nm hz)
  rw [gn.atKey_0 hz ok.rgs] at hat
  simp only [DataW.lit.injEq, Lit.int.injEq, true_and] at hat
  rw [hat]
  exact hrun
theorem h_parts {x : Int} (h0 : 0 ≤ x) (h1 : x ≤ 18446744073709551615) : (hP x : Int) = x / 281474976710656 ∧ 0 ≤ hO x ∧ hO x ≤ 65535 ∧ gn.rg (hZ x) ∧ hZ x / 65536 = (hP x : Int) ∧ hZ x % 65536 = hO x ∧ 0 ≤ hG x ∧ hG x ≤ 4294967295 ∧ hP x ≤ 65535 := by
  unfold hP hO hZ hG gn.rg
  omega
theorem parts_is {x : Int} (w : World) (h0 : 0 ≤ x) (h1 : x ≤ 18446744073709551615) : Calls Try.prog 34 #[.int .u64 x] w fun e w' => e = .returned (.tuple #[.int .u16 (hP x : Int), .int .u16 (hO x), .int .u32 (hG x)]) ∧ w = w' := by
  have h := parts_x x w h0 h1
  rw [← (h_parts h0 h1).1] at h
  exact h
/-- what find tells: the page's pointer, the offset, the error -/
def FEnd (r : Value) (w : World) (e : Ending) (w' : World) : Prop := e = .returned r ∧ Below w.heap.size w w'
def noF : Value := .tuple #[.pointer none, .int .u16 0, .int .i64 5]
set_option maxRecDepth 100000 in
set_option maxHeartbeats 4000000 in
theorem find_far (B a g low s : Nat) (v : Value) (Ps : List Pe) (G : List gn.Ct) (w : World) (h : Ar w B a g v low s Ps G) (x : Int) (h0 : 0 ≤ x) (h1 : x ≤ 18446744073709551615) (hf : ¬ hP x < Ps.length) : Calls Try.prog 37 #[.pointer (some ⟨a, 0, none⟩), .int .u64 x] w (FEnd noF w) := by
  obtain ⟨hp, o0, o1, hz, z1, z2, g0, g1, p1⟩ := h_parts h0 h1
  have HPA := Lib.hid (parts_is w h0 h1)
  obtain ⟨AV, cV, rfl, _⟩ := Ow.sl h.row
  have d1 : decide ((Ps.length : Int) ≤ (hP x : Int)) = true := decide_eq_true (by omega)
  have d1' : decide (Ps.length ≤ hP x) = true := decide_eq_true (by omega)
  have c1 := h.c.2.1
  clear hp hz z1 z2 h
  generalize hP x = px at *
  generalize hO x = ox at *
  generalize hG x = gx at *
  go_enter Try.func37, Try.ntmps37
  go_wp2_with fail
  refine HPA.out.mono ?_
  rintro e w1 ⟨rfl, rfl⟩
  clear HPA
  go_wp2
  go_ret3
  exact ⟨rfl, Below.refl _ _⟩
set_option maxRecDepth 100000 in
set_option maxHeartbeats 4000000 in
theorem find_near (B a g low s : Nat) (v : Value) (Ps : List Pe) (G : List gn.Ct) (w : World) (h : Ar w B a g v low s Ps G) (x : Int) (h0 : 0 ≤ x) (h1 : x ≤ 18446744073709551615) (hf : hP x < Ps.length) (r : Value)
    (hr : r = if isC (Ps[hP x]).2.2.2.1 (hO x) = true ∧ gn.ofC G (hZ x) = hG x then .tuple #[.pointer (some ⟨(Ps[hP x]).1, 0, none⟩), .int .u16 (hO x), .int .i64 0] else noF) : Calls Try.prog 37 #[.pointer (some ⟨a, 0, none⟩), .int .u64 x] w (FEnd r w) := by
  obtain ⟨hp, o0, o1, hz, z1, z2, g0, g1, p1⟩ := h_parts h0 h1
  have HPA := Lib.hid (parts_is w h0 h1)
  obtain ⟨gr, c, rfl, hgr, hc⟩ := h.at_ hf
  have HP := Lib.hid (h.pgs _ (List.getElem_mem hf))
  have HWF := Lib.hid (wf16 o0 o1)
  have HL : Hid (∀ W, Below w.heap.size w W → (Instr.lookup 69 (.map (some g)) (.agg #[.int .u16 (hP x : Int), .int .u16 (hO x)]) false).run Try.prog W = .ok (.int .u32 (gn.ofC G (hZ x))) W) := fun W hb => by
    have := look69 ((h.later hb).gens) h.gok hz
    unfold gn.nmv at this
    rw [z1, z2] at this
    exact this
  have H := Lib.hid h
  have i5 := idx68 gr Ps.length c (hP x) (hP x : Int) rfl hf
  have d1 : decide ((Ps.length : Int) ≤ (hP x : Int)) = false := decide_eq_false (by omega)
  have d1' : decide (Ps.length ≤ hP x) = false := decide_eq_false (by omega)
  have c1 := h.c.2.1
  have hwp : IntKind.i64.wrap (hP x : Int) = (hP x : Int) := IntWalk.i64_in _ (by omega)
  have HR := Lib.hid hr
  clear hp hz z1 z2 h hr
  obtain ⟨pp, hpp⟩ : ∃ pp, (Ps[hP x]).1 = pp := ⟨_, rfl⟩
  obtain ⟨b, hb⟩ : ∃ b, (Ps[hP x]).2.1 = b := ⟨_, rfl⟩
  obtain ⟨P, hPP⟩ : ∃ P, (Ps[hP x]).2.2 = P := ⟨_, rfl⟩
  rw [hpp, hPP] at HR
  rw [hpp, hb, hPP] at HP
  rw [hpp] at hc
  clear hpp hb hPP
  have HIS := Lib.hid (is_any B pp b _ _ _ P.2.1 P.2.2.1 (hO x) w (Pg.at_ HP.out) HWF.out)
  generalize gn.ofC G (hZ x) = gz at *
  generalize hP x = px at *
  generalize hO x = ox at *
  generalize hG x = gx at *
  have c3 := H.out.c.2.2.2
  go_enter Try.func37, Try.ntmps37
  go_wp2_with fail
  refine HPA.out.mono ?_
  rintro e w1 ⟨rfl, rfl⟩
  clear HPA
  go_wp2_with fail
  refine HIS.out.mono ?_
  rintro e w2 ⟨rfl, hb⟩
  have HB := Lib.hid hb
  have c3 := (H.out.later hb).c.2.2.2
  have hl := HL.out _ hb
  clear hb c1 hc HL HIS
  cases hi : isC P.2.1 ox with
  | false =>
    have HRR : Hid (r = noF) := by show _ = _; rw [HR.out, if_neg (fun e => by rw [hi] at e; cases e.1)]
    clear hi HR hl c3
    go_wp2
    go_ret3
    exact ⟨by rw [HRR.out]; rfl, HB.out⟩
  | true =>
    by_cases hg : gz = gx
    · have HRR : Hid (r = .tuple #[.pointer (some ⟨pp, 0, none⟩), .int .u16 ox, .int .i64 0]) := by show _ = _; rw [HR.out, if_pos ⟨hi, hg⟩]
      subst hg
      have dg : (gz != gz) = false := by simp
      clear hi HR
      go_wp2
      go_ret3
      exact ⟨by rw [HRR.out]; rfl, HB.out⟩
    · have HRR : Hid (r = noF) := by show _ = _; rw [HR.out, if_neg (fun e => hg e.2)]
      have dg : (gz != gx) = true := by simp [hg]
      clear hi HR hg
      go_wp2
      go_ret3
      exact ⟨by rw [HRR.out]; rfl, HB.out⟩
/-- the page that a handle names -/
theorem find_all {W : World} {B a s : Nat} {st : AS} {S : Nat → Prop} (h : AR W B a s st S) (x : Int) (h0 : 0 ≤ x) (h1 : x ≤ 18446744073709551615) :
    (isA st x = false ∧ ∀ w, Below W.heap.size W w → Calls Try.prog 37 #[.pointer (some ⟨a, 0, none⟩), .int .u64 x] w (FEnd noF w)) ∨
    (isA st x = true ∧ ∃ g v Ps, Ar W B a g v st.1 s Ps st.2.2 ∧ Ps.map (fun x => x.2.2) = st.2.1 ∧ S = ArSet a g v Ps ∧ ∃ p b P, Ps[hP x]? = some (p, b, P) ∧ st.2.1.getD (hP x) newP = P ∧ isC P.2.1 (hO x) = true ∧
      ∀ w, Below W.heap.size W w → Calls Try.prog 37 #[.pointer (some ⟨a, 0, none⟩), .int .u64 x] w (FEnd (.tuple #[.pointer (some ⟨p, 0, none⟩), .int .u16 (hO x), .int .i64 0]) w)) := by
  obtain ⟨g, v, Ps, ha, hm, hS, _, _⟩ := h
  have hl : st.2.1.length = Ps.length := by rw [← hm, List.length_map]
  by_cases hf : hP x < Ps.length
  · have hg : st.2.1.getD (hP x) newP = (Ps[hP x]).2.2 := by
      rw [List.getD_eq_getElem?_getD, ← hm, List.getElem?_map, List.getElem?_eq_getElem hf]; rfl
    have hi : isA st x = (isC (Ps[hP x]).2.2.2.1 (hO x) && decide (gn.ofC st.2.2 (hZ x) = hG x)) := by
      unfold isA
      rw [hl, decide_eq_true hf, Bool.true_and, hg]
    by_cases hc : isC (Ps[hP x]).2.2.2.1 (hO x) = true ∧ gn.ofC st.2.2 (hZ x) = hG x
    · right
      refine ⟨by rw [hi, hc.1, decide_eq_true hc.2]; rfl, g, v, Ps, ha, hm, hS, (Ps[hP x]).1, (Ps[hP x]).2.1, (Ps[hP x]).2.2, List.getElem?_eq_getElem hf, hg, hc.1, fun w hb => ?_⟩
      exact find_near B a g st.1 s v Ps st.2.2 w (ha.later hb) x h0 h1 hf _ (by rw [if_pos hc])
    · left
      refine ⟨?_, fun w hb => find_near B a g st.1 s v Ps st.2.2 w (ha.later hb) x h0 h1 hf _ (by rw [if_neg hc])⟩
      rw [hi]
      cases e : isC (Ps[hP x]).2.2.2.1 (hO x) with
      | false => rfl
      | true => rw [Bool.true_and]; exact decide_eq_false (fun e2 => hc ⟨e, e2⟩)
  · left
    refine ⟨?_, fun w hb => find_far B a g st.1 s v Ps st.2.2 w (ha.later hb) x h0 h1 hf⟩
    unfold isA
    rw [hl, decide_eq_false hf, Bool.false_and]
set_option maxRecDepth 100000 in
set_option maxHeartbeats 4000000 in
theorem aris_any (B a s : Nat) (st : AS) (S : Nat → Prop) (w : World) (h : AR w B a s st S) (x : Int) (h0 : 0 ≤ x) (h1 : x ≤ 18446744073709551615) : Calls Try.prog 15 #[.pointer (some ⟨a, 0, none⟩), .int .u64 x] w fun e w' => e = .returned (.bool (isA st x)) ∧ Below w.heap.size w w' := by
  rcases find_all h x h0 h1 with ⟨hi, hf⟩ | ⟨hi, g, v, Ps, _, _, _, p, b, P, _, _, _, hf⟩
  · have HF := Lib.hid (hf w (Below.refl _ _))
    rw [hi]
    clear hf hi h
    go_enter Try.func15, Try.ntmps15
    go_wp2_with fail
    refine HF.out.mono ?_
    rintro e w1 ⟨rfl, hb⟩
    have HB := Lib.hid hb
    clear hb HF
    unfold noF
    go_wp2
    go_ret
    exact ⟨rfl, HB.out⟩
  · have HF := Lib.hid (hf w (Below.refl _ _))
    rw [hi]
    clear hf hi h
    go_enter Try.func15, Try.ntmps15
    go_wp2_with fail
    refine HF.out.mono ?_
    rintro e w1 ⟨rfl, hb⟩
    have HB := Lib.hid hb
    clear hb HF
    go_wp2
    go_ret
    exact ⟨rfl, HB.out⟩
set_option maxRecDepth 100000 in
set_option maxHeartbeats 4000000 in
theorem arread_any (B a s : Nat) (st : AS) (S : Nat → Prop) (w : World) (h : AR w B a s st S) (x : Int) (h0 : 0 ≤ x) (h1 : x ≤ 18446744073709551615) : Calls Try.prog 11 #[.pointer (some ⟨a, 0, none⟩), .int .u64 x] w fun e w' => e = .returned (.tuple #[.string (rdA s x st), .int .i64 (rdAE x st)]) ∧ Below w.heap.size w w' := by
  unfold rdA rdAE
  rcases find_all h x h0 h1 with ⟨hi, hf⟩ | ⟨hi, g, v, Ps, ha, _, _, p, b, P, hP1, hP2, hP3, hf⟩
  · have HF := Lib.hid (hf w (Below.refl _ _))
    rw [hi, if_neg (by decide), if_neg (by decide)]
    clear hf hi h
    go_enter Try.func11, Try.ntmps11
    go_wp2_with fail
    refine HF.out.mono ?_
    rintro e w1 ⟨rfl, hb⟩
    have HB := Lib.hid hb
    clear hb HF
    unfold noF
    go_wp2
    go_ret2
    exact ⟨rfl, HB.out⟩
  · have HF := Lib.hid (hf w (Below.refl _ _))
    have hq := h_parts h0 h1
    have hmem : (p, b, P) ∈ Ps := List.mem_of_getElem? hP1
    have HRD : Hid (∀ W, Below w.heap.size w W → Calls Try.prog 38 #[.pointer (some ⟨p, 0, none⟩), .int .u16 (hO x)] W fun e w' => e = .returned (.tuple #[.string (rdT s (hO x) P), .int .i64 0]) ∧ Below W.heap.size W w') := fun W hb => by
      have := rd_any B p b s P W ((ha.pgs _ hmem).later hb) (hO x) (wf16 hq.2.1 hq.2.2.1)
      unfold rdE at this
      rw [hP3, if_pos rfl] at this
      exact this
    rw [hi, if_pos rfl, if_pos rfl, hP2]
    clear hf hi h ha hP1 hP2 hP3 hq hmem
    generalize rdT s (hO x) P = t at *
    generalize hO x = ox at *
    go_enter Try.func11, Try.ntmps11
    go_wp2_with fail
    refine HF.out.mono ?_
    rintro e w1 ⟨rfl, hb⟩
    have HB := Lib.hid hb
    clear hb HF
    go_wp2_with fail
    refine (HRD.out _ HB.out).mono ?_
    rintro e w2 ⟨rfl, hb⟩
    have HB2 := Lib.hid (stepB HB.out hb)
    clear hb HRD HB
    go_wp2
    go_ret2
    exact ⟨rfl, HB2.out⟩
set_option maxRecDepth 100000 in
set_option maxHeartbeats 4000000 in
theorem arwrite_any (B a s : Nat) (st : AS) (S : Nat → Prop) (w : World) (h : AR w B a s st S) (x : Int) (h0 : 0 ≤ x) (h1 : x ≤ 18446744073709551615) (T : ByteArray) (h4 : s ≤ 4096) : Calls Try.prog 14 #[.pointer (some ⟨a, 0, none⟩), .int .u64 x, .string T] w (AEnd B a s (wrA s x T st) S (.int .i64 (wrAE s x T st)) w) := by
  have HA0 := Lib.hid h
  rcases find_all h x h0 h1 with ⟨hi, hf⟩ | ⟨hi, g, v, Ps, ha, hm, hS, p, b, P, hP1, hP2, hP3, hf⟩
  · have HF := Lib.hid (hf w (Below.refl _ _))
    have HS1 : Hid (wrA s x T st = st) := by show _ = _; unfold wrA; rw [hi, if_neg (by decide)]
    have HS2 : Hid (wrAE s x T st = 5) := by show _ = _; unfold wrAE; rw [hi, if_neg (by decide)]
    rw [HS1.out, HS2.out]
    clear hf hi h HS1 HS2
    go_enter Try.func14, Try.ntmps14
    go_wp2_with fail
    refine HF.out.mono ?_
    rintro e w1 ⟨rfl, hb⟩
    have HB := Lib.hid hb
    clear hb HF
    unfold noF
    go_wp2
    go_ret
    exact ⟨rfl, S, HA0.out.later HB.out, fun k hk => .inl hk, FrS.of_below HB.out⟩
  · have HF := Lib.hid (hf w (Below.refl _ _))
    have hq := h_parts h0 h1
    have hmem : (p, b, P) ∈ Ps := List.mem_of_getElem? hP1
    have hl : st.2.1.length = Ps.length := by rw [← hm, List.length_map]
    have hlo : st.1 ≤ st.2.1.length := by obtain ⟨_, _, _, _, _, _, h1, _⟩ := h; exact h1
    have hln : st.2.1.length ≤ 4096 := by obtain ⟨_, _, _, _, _, _, _, h1⟩ := h; exact h1
    clear h
    have h : True := trivial
    have HS1 : Hid (wrA s x T st = (st.1, st.2.1.set (hP x) (wrS s (hO x) T P), st.2.2)) := by show _ = _; unfold wrA; rw [hi, if_pos rfl, hP2]
    have HS2 : Hid (wrAE s x T st = (if T.size ≤ s then 0 else 40)) := by show _ = _; unfold wrAE; rw [hi, if_pos rfl]
    rw [HS1.out, HS2.out]
    subst hS
    have H := Lib.hid ha
    have HMP : Hid (∀ (W : World) (l : Nat) (P' : PS), l ≤ st.1 → Ar W B a g v l s (Ps.set (hP x) (p, b, P')) st.2.2 → AR W B a s (l, st.2.1.set (hP x) P', st.2.2) (ArSet a g v (Ps.set (hP x) (p, b, P')))) := fun W l P' hll hA =>
      ⟨g, v, _, hA, by rw [List.map_set, hm], rfl, by simp only [List.length_set]; omega, by simp only [List.length_set]; exact hln⟩
    have HSS : Hid (∀ P' k, ArSet a g v (Ps.set (hP x) (p, b, P')) k → ArSet a g v Ps k) := fun P' k hk => ArSet.page hP1 hk
    have HPI := Lib.hid hP1
    have HPM := Lib.hid hmem
    have HWF := Lib.hid (wf16 hq.2.1 hq.2.2.1)
    have HQ := Lib.hid hq
    have HIC := Lib.hid hP3
    have HE5 : Hid (wrE s (hO x) T P = (if T.size ≤ s then 0 else 40)) := by show _ = _; unfold wrE; rw [hP3, if_pos rfl]
    obtain ⟨ev, hev⟩ : ∃ ev : Int, (if T.size ≤ s then 0 else 40) = ev := ⟨_, rfl⟩
    rw [hev] at HE5
    rw [hev]
    clear hev
    clear hf hi ha hP1 hP2 hP3 hq hmem HA0 hl hlo hln hm HS1 HS2
    go_enter Try.func14, Try.ntmps14
    go_wp2_with fail
    refine HF.out.mono ?_
    rintro e w1 ⟨rfl, hb⟩
    have HA1 := Lib.hid (H.out.later hb)
    have HF1 : Hid (FrS w w1 (ArSet a g v Ps)) := FrS.of_below hb
    clear hb HF
    have HA2 := HA1
    have HF2 := HF1
    go_wp2_with fail
    refine (wr_any B p b s P w1 (HA2.out.pgs _ HPM.out) h4 (hO x) T HWF.out).mono ?_
    rintro e w3 ⟨rfl, hp, hf⟩
    have HAX := Lib.hid (HA2.out.page HPI.out hf hp)
    have HFX := Lib.hid (HF2.out.trans (S' := ArSet a g v Ps) (FrS.of_fr hf (.inr (.inr (.inr ⟨_, HPM.out, .inl rfl⟩))) (.inr (.inr (.inr ⟨_, HPM.out, .inr rfl⟩)))) (fun i h => .inl h))
    clear hp hf
    go_wp2
    go_ret
    refine ⟨?_, ArSet a g v (Ps.set (hP x) (p, b, wrS s (hO x) T P)), ?_, fun k hk => .inl (HSS.out _ _ hk), HFX.out⟩
    · show Ending.returned (.int .i64 (wrE s (hO x) T P)) = _
      rw [HE5.out]
    try rw [HMN.out]
    exact HMP.out _ _ _ (by omega) HAX.out
set_option maxRecDepth 100000 in
set_option maxHeartbeats 4000000 in
theorem arfree_any (B a s : Nat) (st : AS) (S : Nat → Prop) (w : World) (h : AR w B a s st S) (x : Int) (h0 : 0 ≤ x) (h1 : x ≤ 18446744073709551615) (h4 : s ≤ 4096) : Calls Try.prog 13 #[.pointer (some ⟨a, 0, none⟩), .int .u64 x] w (AEnd B a s (frA x st) S (.int .i64 (frAE x st)) w) := by
  have HA0 := Lib.hid h
  rcases find_all h x h0 h1 with ⟨hi, hf⟩ | ⟨hi, g, v, Ps, ha, hm, hS, p, b, P, hP1, hP2, hP3, hf⟩
  · have HF := Lib.hid (hf w (Below.refl _ _))
    have HS1 : Hid (frA x st = st) := by show _ = _; unfold frA; rw [hi, if_neg (by decide)]
    have HS2 : Hid (frAE x st = 5) := by show _ = _; unfold frAE; rw [hi, if_neg (by decide)]
    rw [HS1.out, HS2.out]
    clear hf hi h HS1 HS2
    go_enter Try.func13, Try.ntmps13
    go_wp2_with fail
    refine HF.out.mono ?_
    rintro e w1 ⟨rfl, hb⟩
    have HB := Lib.hid hb
    clear hb HF
    unfold noF
    go_wp2
    go_ret
    exact ⟨rfl, S, HA0.out.later HB.out, fun k hk => .inl hk, FrS.of_below HB.out⟩
  · have HF := Lib.hid (hf w (Below.refl _ _))
    have hq := h_parts h0 h1
    have hmem : (p, b, P) ∈ Ps := List.mem_of_getElem? hP1
    have hl : st.2.1.length = Ps.length := by rw [← hm, List.length_map]
    have hlo : st.1 ≤ st.2.1.length := by obtain ⟨_, _, _, _, _, _, h1, _⟩ := h; exact h1
    have hln : st.2.1.length ≤ 4096 := by obtain ⟨_, _, _, _, _, _, _, h1⟩ := h; exact h1
    clear h
    have h : True := trivial
    have HS1 : Hid (frA x st = (min st.1 (hP x), st.2.1.set (hP x) (frS (hO x) P), st.2.2)) := by show _ = _; unfold frA; rw [hi, if_pos rfl, hP2]
    have HS2 : Hid (frAE x st = 0) := by show _ = _; unfold frAE; rw [hi, if_pos rfl]
    rw [HS1.out, HS2.out]
    subst hS
    have H := Lib.hid ha
    have HMP : Hid (∀ (W : World) (l : Nat) (P' : PS), l ≤ st.1 → Ar W B a g v l s (Ps.set (hP x) (p, b, P')) st.2.2 → AR W B a s (l, st.2.1.set (hP x) P', st.2.2) (ArSet a g v (Ps.set (hP x) (p, b, P')))) := fun W l P' hll hA =>
      ⟨g, v, _, hA, by rw [List.map_set, hm], rfl, by simp only [List.length_set]; omega, by simp only [List.length_set]; exact hln⟩
    have HSS : Hid (∀ P' k, ArSet a g v (Ps.set (hP x) (p, b, P')) k → ArSet a g v Ps k) := fun P' k hk => ArSet.page hP1 hk
    have HPI := Lib.hid hP1
    have HPM := Lib.hid hmem
    have HWF := Lib.hid (wf16 hq.2.1 hq.2.2.1)
    have HQ := Lib.hid hq
    have HIC := Lib.hid hP3
    have HE5 : Hid (frE (hO x) P = 0) := by show _ = _; unfold frE; rw [hP3, if_pos rfl]
    have HPA := Lib.hid (fun W => parts_is W h0 h1)
    clear hf hi ha hP1 hP2 hP3 hq hmem HA0 hl hlo hln hm HS1 HS2
    go_enter Try.func13, Try.ntmps13
    go_wp2_with fail
    refine HF.out.mono ?_
    rintro e w1 ⟨rfl, hb⟩
    have HA1 := Lib.hid (H.out.later hb)
    have HF1 : Hid (FrS w w1 (ArSet a g v Ps)) := FrS.of_below hb
    clear hb HF
    go_wp2_with fail
    refine (HPA.out _).mono ?_
    rintro e w2 ⟨rfl, rfl⟩
    have c2 := HA1.out.c.2.2.1
    have f2 := HA1.out.blk.frozen 2
    have hwp : IntKind.i64.wrap (hP x : Int) = (hP x : Int) := IntWalk.i64_in _ (by have := HQ.out.2.2.2.2.2.2.2.2; omega)
    rcases Nat.lt_or_ge (hP x) st.1 with hlt | hge
    · have HMN : Hid (min st.1 (hP x) = hP x) := by show _ = _; omega
      have HA2 := Lib.hid (HA1.out.setLow (hP x))
      have HF2 := Lib.hid (HF1.out.trans (S' := ArSet a g v Ps) (HA1.out.frLow (hP x)) (fun i h => .inl h))
      go_wp2_with fail
      refine (fr_any B p b s P _ (HA2.out.pgs _ HPM.out) (hO x) HWF.out).mono ?_
      rintro e w3 ⟨rfl, hp, hf⟩
      have HAX := Lib.hid (HA2.out.page HPI.out hf hp)
      have HFX := Lib.hid (HF2.out.trans (S' := ArSet a g v Ps) (FrS.of_fr hf (.inr (.inr (.inr ⟨_, HPM.out, .inl rfl⟩))) (.inr (.inr (.inr ⟨_, HPM.out, .inr rfl⟩)))) (fun i h => .inl h))
      clear hp hf
      go_wp2
      go_ret
      refine ⟨?_, ArSet a g v (Ps.set (hP x) (p, b, frS (hO x) P)), ?_, fun k hk => .inl (HSS.out _ _ hk), HFX.out⟩
      · show Ending.returned (.int .i64 (frE (hO x) P)) = _
        rw [HE5.out]
      try rw [HMN.out]
      exact HMP.out _ _ _ (by omega) HAX.out
    · have HMN : Hid (min st.1 (hP x) = st.1) := by show _ = _; omega
      have HA2 := Lib.hid (HA1.out.setLow st.1)
      have HF2 := Lib.hid (HF1.out.trans (S' := ArSet a g v Ps) (HA1.out.frLow st.1) (fun i h => .inl h))
      go_wp2_with fail
      refine (fr_any B p b s P _ (HA2.out.pgs _ HPM.out) (hO x) HWF.out).mono ?_
      rintro e w3 ⟨rfl, hp, hf⟩
      have HAX := Lib.hid (HA2.out.page HPI.out hf hp)
      have HFX := Lib.hid (HF2.out.trans (S' := ArSet a g v Ps) (FrS.of_fr hf (.inr (.inr (.inr ⟨_, HPM.out, .inl rfl⟩))) (.inr (.inr (.inr ⟨_, HPM.out, .inr rfl⟩)))) (fun i h => .inl h))
      clear hp hf
      go_wp2
      go_ret
      refine ⟨?_, ArSet a g v (Ps.set (hP x) (p, b, frS (hO x) P)), ?_, fun k hk => .inl (HSS.out _ _ hk), HFX.out⟩
      · show Ending.returned (.int .i64 (frE (hO x) P)) = _
        rw [HE5.out]
      try rw [HMN.out]
      exact HMP.out _ _ _ (by omega) HAX.out
end Go.Proofs.Ytbnbhhmgfogjeaa
