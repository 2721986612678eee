/- Alloc. -/
import Derived.Test.YtbnbhhmgfogjeaaGG
import Derived.StillTailTactics
import Derived.WideKeyEntry
namespace Go.Proofs.Ytbnbhhmgfogjeaa
open Go.ChangeShapes Go.WideShapes Go.ChangeAt Go.RowKit Go.Maps
set_option linter.unusedVariables false
set_option linter.unusedSimpArgs false

theorem step_callw {P : Program} {ops : Array Oper} {Q : Exit → Act → World → Prop} {o : Oper} {a : Act} {w : World} {K : Act → World → Prop} {D : Prop} (hw : Region.wanted o (yielded ops a.tmps) = true) (f : FuncId) (args : Array Value) (hrun : (execOp a.eval o).run P w = .ok (.enter f args) w) (h : Calls P f args w fun e w' => ∃ v, e = .returned v ∧ K (a.put o.dst v) w') :
    if Region.wanted o (yielded ops a.tmps) = true then Oper.wp P o a w K Q else D := by
  rw [if_pos hw]
  unfold Oper.wp
  rw [hrun, Oper.upon_enter]
  refine h.mono fun e w' hh => ?_
  obtain ⟨v, rfl, hk⟩ := hh
  exact hk
theorem klaw74 : Go.WideMaps.KeyLaw Try.prog 74 := deep_law_laid gn.laid_out (m := 5) (by decide) (of_decide_eq_true (by kernel_rfl)) (by kernel_rfl) (by kernel_rfl)
theorem gn.of_put {G : List gn.Ct} (h : gn.Ok G) {z n : Int} (hz : gn.rg z) (hn : (Lit.int .u32 n).wf = true) : gn.ofC (gn.putC G z n) z = n :=
  (gn.of_is (h.put hz hn).up (gn.mem_ins.2 (.inl rfl))).2
theorem wf32 {n : Int} (h0 : 0 ≤ n) (h1 : n ≤ 4294967295) : (Lit.int .u32 n).wf = true := by
  simp only [Lit.wf, Bool.and_eq_true, decide_eq_true_eq]
  exact ⟨by show (0 : Int) ≤ _; omega, by show _ ≤ (4294967295 : Int); omega⟩
/-- an entry that is asked for is the entry that a store of its own value leaves -/
theorem entry_same {H : Type} {P : Program} {w : World} {t k e : TypeId} {R : Value → Option (DataW H × List MemPlace)} {b : Nat} {es : Array MapEntry} {clock : Nat}
    (K : Go.WideMaps.KeyLaw P k) (ht : P.underlying t = some (.map k e)) {z : Value} (hz : ∀ u : World, (zeroValue e).run P u = .ok z u) (hb : w.heap[b]? = some (.map es clock)) (F : Go.WideElems.Fit P k R es clock)
    {key : Value} {kl : Lit} (hkey : keyOf P k key = some kl) : ∃ (v0 : Value) (st : Nat) (w1 : World), (Instr.mapEntry t (.map (some b)) key).run P w = .ok (.tuple #[v0, goInt st]) w1 ∧ (Instr.mapUpdate t (.map (some b)) key v0).run P w = .ok () w1 ∧ (Instr.lookup t (.map (some b)) key false).run P w = .ok v0 w := by
  rcases K.find w hkey es.toList F.keys with ⟨f1, f2⟩ | ⟨j, e0, f1, f2, f3⟩
  · refine ⟨z, clock, Go.ChangeMaps.setBlock w b (Obj.map (es.push ⟨key, z, clock⟩) (clock + 1)), ?_, ?_, ?_⟩
    · simp [Instr.mapEntry, run_underlying ht, MapKept.run_getObj_map hb, K.check w false hkey, f1, hz, MapKept.run_setObj_map _ hb, Result.andThen, Go.ChangeMaps.setBlock]
    · simp [Instr.mapUpdate, run_underlying ht, MapKept.run_getObj_map hb, K.check w false hkey, f1, MapKept.run_setObj_map _ hb, Result.andThen, Go.ChangeMaps.setBlock]
    · simp [Instr.lookup, run_underlying ht, MapKept.run_getObj_map hb, K.check w es.isEmpty hkey, f1, hz, Result.andThen]
  · have q1 : es[j]? = some e0 := by simpa using f2
    have q2 : ∀ g : MapEntry → MapEntry, g e0 = e0 → es.modify j g = es := fun g hg => by
      apply Array.ext'
      rw [Array.toList_modify, Go.ChangeMaps.modify_eq_set _ _ _ _ f2, hg]
      exact Go.WideElems.set_self _ _ _ f2
    have q3 : ({ e0 with key := key } : MapEntry) = e0 := by rw [← f3]
    have q4 : ({ e0 with key := key, val := e0.val } : MapEntry) = e0 := by rw [← f3]
    refine ⟨e0.val, e0.born, Go.ChangeMaps.setBlock w b (Obj.map es clock), ?_, ?_, ?_⟩
    · simp [Instr.mapEntry, run_underlying ht, MapKept.run_getObj_map hb, K.check w false hkey, f1, q1, f3, K.stays w hkey, q2 (fun e => { e with key := key }) q3, MapKept.run_setObj_map _ hb, Result.andThen, Go.ChangeMaps.setBlock]
    · simp [Instr.mapUpdate, run_underlying ht, MapKept.run_getObj_map hb, K.check w false hkey, f1, q1, f3, K.stays w hkey, q2 (fun e' => { e' with key := key, val := e0.val }) q4, MapKept.run_setObj_map _ hb, Result.andThen, Go.ChangeMaps.setBlock]
    · simp [Instr.lookup, run_underlying ht, MapKept.run_getObj_map hb, K.check w es.isEmpty hkey, f1, Result.andThen]
/-- 'm[k]++' -/
theorem gens_inc {W : World} {B b : Nat} {G : List gn.Ct} {z n : Int} (h : gn.MapAt W B b G) (ok : gn.Ok G) (hz : gn.rg z) (hn : (Lit.int .u32 n).wf = true) (hl : G.length < 1000000000) :
    ∃ (st : Nat) (W1 W2 : World), (Instr.mapEntry 69 (.map (some b)) (gn.nmv z)).run Try.prog W = .ok (.tuple #[.int .u32 (gn.ofC G z), .int .i64 (st : Int)]) W1 ∧
      (Instr.lookup 69 (.map (some b)) (gn.nmv z) false).run Try.prog W1 = .ok (.int .u32 (gn.ofC G z)) W1 ∧
      (Instr.entryStore 69 (.map (some b)) (.int .i64 (st : Int)) (.int .u32 n)).run Try.prog W1 = .ok () W2 ∧ W2.ownsMap Try.prog 74 gn.R3 b (G.length + 1) (gn.dm (gn.putC G z n)) ∧ W.grownBy W1 (some b) ∧ W.grownBy W2 (some b) := by
  obtain ⟨es, clock, hb, F, hs, hD⟩ := id h.2
  have hr3 := look69 h ok hz
  obtain ⟨v0, st, W1, r1, r2, r3⟩ := entry_same klaw74 Try.underlying69 gn.zero42 hb F (gn.key_nm hz)
  rw [hr3] at r3
  have hv0 : v0 = .int .u32 (gn.ofC G z) := by simpa using r3.symm
  subst hv0
  have hwc := ok.of z
  obtain ⟨w1, hrun1, hown1, hg1⟩ := h.2.update gn.law74 Try.underlying69 (by unfold maxLen; omega) (gn.key_nm hz) (plainElem_int Try.underlying42 hwc)
  rw [gn.put_dm hz ok.rgs] at hown1
  rw [r2] at hrun1
  obtain rfl : W1 = w1 := by simpa using hrun1
  obtain ⟨w2, hrun2, hown2, hg2⟩ := h.2.update gn.law74 Try.underlying69 (by unfold maxLen; omega) (gn.key_nm hz) (plainElem_int Try.underlying42 hn)
  rw [gn.put_dm hz ok.rgs] at hown2
  obtain ⟨v0', st', es1, clock1, h1, _, h2⟩ := Go.WideElems.entry_then_store klaw74 Try.underlying69 gn.zero42 hb F (gn.key_nm hz)
  rw [r1] at h1
  have h1' : st = st' ∧ W1 = Go.ChangeMaps.setBlock W b (Obj.map es1 clock1) := by
    simp only [Result.ok.injEq, Value.tuple.injEq, Array.mk.injEq, List.cons.injEq, and_true, goInt, Value.int.injEq, true_and] at h1
    exact ⟨by have := h1.1.2; omega, h1.2⟩
  obtain ⟨rfl, hW1⟩ := h1'
  have hb1 : W1.heap[b]? = some (Obj.map es1 clock1) := by rw [hW1]; exact Go.ChangeMaps.heap_setBlock_same hb _
  obtain ⟨es', clock', h3, h4⟩ := h2 W1 (.int .u32 n) hb1
  have e : Go.ChangeMaps.setBlock W1 b (Obj.map es' clock') = w2 := by
    rw [h4] at hrun2
    have h5 : Go.ChangeMaps.setBlock W b (Obj.map es' clock') = w2 := by simpa using hrun2
    rw [← h5, hW1]
    simp [Go.ChangeMaps.setBlock]
  rw [e] at h3
  refine ⟨st, W1, w2, r1, ?_, h3, hown2, hg1, hg2⟩
  have hl2 := look69 ⟨h.1, gn.own_tight hown1⟩ (ok.put hz hwc) hz
  rw [gn.of_put ok hz hwc] at hl2
  exact hl2
abbrev SC (a : Nat) (v : Value) (l gr p : Nat) (W : World) : Prop := W.cell? ⟨a, 1, none⟩ = some v ∧ W.cell? ⟨a, 2, none⟩ = some (.int .i64 (l : Int)) ∧ W.cell? ⟨gr, l, none⟩ = some (.pointer (some ⟨p, 0, none⟩))
abbrev SK (a g px l o : Nat) (W : World) : Prop := W.cell? ⟨a, 3, none⟩ = some (.map (some g)) ∧ W.cell? ⟨px, 0, none⟩ = some (.int .u16 (l : Int)) ∧ W.cell? ⟨px, 1, none⟩ = some (.int .u16 (o : Int))
abbrev SL (a g px l o : Nat) (nn : Int) (W : World) : Prop := W.cell? ⟨a, 3, none⟩ = some (.map (some g)) ∧ W.cell? ⟨px, 0, none⟩ = some (.int .u16 (l : Int)) ∧ W.cell? ⟨px, 1, none⟩ = some (.int .u16 (o : Int)) ∧ (Instr.lookup 69 (.map (some g)) (.agg #[.int .u16 (l : Int), .int .u16 (o : Int)]) false).run Try.prog W = .ok (.int .u32 nn) W
/-- what Alloc does once there is room -/
def PutEnd (B a s l : Nat) (L : List PS) (G : List gn.Ct) (S : Nat → Prop) (w : World) (e : Ending) (w' : World) : Prop := AEnd B a s (putA s l L G).1 S (.tuple #[.int .u64 (putA s l L G).2.1, .int .i64 0]) w e w'
theorem nextO_rg {W : World} {B p b s : Nat} {P : PS} (h : PgS W B p b s P) (hs : s ≤ 4096) (hn : fullP s P = false) : nextO s P + s ≤ 4096 ∧ alO s P = (nextO s P : Int) ∧ alE s P = 0 := by
  have h : Pg W B p b s P.1 P.2.1 P.2.2.1 P.2.2.2 := h
  have hf : P.2.1.length ≠ 4096 / s := of_decide_eq_false hn
  have hr : P.2.1.length < 4096 / s := by have := h.room.2; omega
  have ha := (pg_alloc_new h hr).2
  unfold alO alE
  rw [if_neg hf, if_neg hf]
  refine ⟨?_, rfl, rfl⟩
  unfold nextO
  unfold allC at ha
  split at ha <;> simp_all
set_option maxRecDepth 100000 in
set_option maxHeartbeats 8000000 in
theorem alloc_any (B a s : Nat) (st : AS) (S : Nat → Prop) (w : World) (h : AR w B a s st S) (h2 : 2 ≤ s) (h4 : s ≤ 4096) (hG : st.2.2.length < 1000000000) : Calls Try.prog 10 #[.pointer (some ⟨a, 0, none⟩)] w (AEnd B a s (alA s st).1 S (.tuple #[.int .u64 (alA s st).2.1, .int .i64 (alA s st).2.2]) w) := by
  obtain ⟨g, v, Ps, ha, hm, rfl, hlo, hln⟩ := h
  obtain ⟨low, L, G⟩ := st
  simp only at ha hm hlo hln hG
  have hl : L.length = Ps.length := by rw [← hm, List.length_map]
  have HRM := Lib.hid (room_any4 B a g low s v Ps G w ha h2 h4 (by omega) (by omega))
  have HLO : Hid (lowL s low (Ps.map (fun x => x.2.2)) ≤ Ps.length) := by
    have := lowL_le (s := s) (low := low) (L := Ps.map (fun x => x.2.2)) (by rw [List.length_map]; omega)
    rw [List.length_map] at this
    exact this
  have HIS := Lib.hid (lowL_is s (Ps.map (fun x => x.2.2)) _ low rfl (by rw [List.length_map]; omega))
  have HM := Lib.hid hm
  have HLL : Hid (L.length = Ps.length) := hl
  have HLN : Hid (Ps.length ≤ 4096) := by show _ ≤ _; omega
  obtain ⟨r1, hr1⟩ : ∃ r, (alA s (low, L, G)).1 = r := ⟨_, rfl⟩
  obtain ⟨r2, hr2⟩ : ∃ r, (alA s (low, L, G)).2.1 = r := ⟨_, rfl⟩
  obtain ⟨r3, hr3⟩ : ∃ r, (alA s (low, L, G)).2.2 = r := ⟨_, rfl⟩
  rw [hr1, hr2, hr3]
  have HRR : Hid (alA s (low, L, G) = (r1, r2, r3)) := by show _ = _; rw [← hr1, ← hr2, ← hr3]
  clear hr1 hr2 hr3 hm hl hlo hln ha
  go_enter Try.func10, Try.ntmps10
  go_wp2_with fail
  refine HRM.out.mono ?_
  rintro e w1 ⟨r, v', Ps', rfl, hA, hF, hN, hc⟩
  have HA := Lib.hid hA
  have HF := Lib.hid hF
  have HSET : Hid (∀ k, ArSet a g v' Ps' k → ArSet a g v Ps k ∨ w.heap.size ≤ k) := by
    intro k hk
    rcases hk with h | h | h | ⟨x, hx, h⟩
    · exact .inl (.inl h)
    · exact .inl (.inr (.inl h))
    · rcases hN k h with h | h
      · exact .inl (.inr (.inr (.inl h)))
      · exact .inr h
    · rcases hc with ⟨_, _, rfl⟩ | ⟨_, _, _, rfl⟩ | ⟨_, _, _, p, b, rfl, h5, h6⟩
      · exact .inl (.inr (.inr (.inr ⟨x, hx, h⟩)))
      · exact .inl (.inr (.inr (.inr ⟨x, hx, h⟩)))
      · rcases List.mem_append.1 hx with hx | hx
        · exact .inl (.inr (.inr (.inr ⟨x, hx, h⟩)))
        · obtain rfl := List.mem_singleton.1 hx
          simp only at h
          exact .inr (by omega)
  clear HRM
  by_cases hfull : r = false
  · subst hfull
    have HEND : Hid (r1 = (lowL s low L, L, G) ∧ r2 = 0 ∧ r3 = 41 ∧ Ps' = Ps) := by
      rcases hc with ⟨e, _⟩ | ⟨_, h5, h6, h7⟩ | ⟨e, _⟩
      · cases e
      · have h8 := HRR.out
        unfold alA at h8
        simp only at h8
        rw [HM.out, ← HLL.out] at h5
        rw [if_neg (by omega), if_pos (by rw [HLL.out]; exact h6)] at h8
        simp only [Prod.mk.injEq] at h8
        exact ⟨by rw [← h8.1], h8.2.1.symm, h8.2.2.symm, h7⟩
      · cases e
    clear hc hA hF hN
    go_wp2
    go_ret2
    obtain ⟨e1, e2, e3, e4⟩ := HEND.out
    refine ⟨by rw [e2, e3]; rfl, _, ⟨g, v', Ps', by rw [e1]; have := HA.out; rw [HM.out] at this; exact this, by rw [e1, e4]; exact HM.out, rfl, by rw [e1]; have := HLO.out; rw [HM.out] at this; simp only; rw [HLL.out]; exact this, by rw [e1]; simp only; rw [HLL.out]; exact HLN.out⟩, HSET.out, HF.out⟩
  · have hr : r = true := by simpa using hfull
    subst hr
    obtain ⟨l, hl0⟩ : ∃ l, lowL s low (Ps.map (fun x => x.2.2)) = l := ⟨_, rfl⟩
    have HPUT : Hid (l < Ps'.length ∧ Ps'.length ≤ 4096 ∧ (∀ hh : l < Ps'.length, fullP s (Ps'[l]).2.2 = false) ∧ (r1, r2, r3) = putA s l (Ps'.map (fun x => x.2.2)) G) := by
      rcases hc with ⟨_, h5, rfl⟩ | ⟨e, _⟩ | ⟨_, h5, h6, p, b, rfl, _, _⟩
      · rw [hl0] at h5
        refine ⟨h5, HLN.out, fun hh => ?_, ?_⟩
        · have := HIS.out.2 (Ps'[l]).2.2 (by rw [hl0, List.getElem?_map, List.getElem?_eq_getElem h5]; rfl)
          exact this
        · rw [← HRR.out]
          unfold alA
          simp only
          rw [← HM.out, hl0, if_pos (by rw [List.length_map]; exact h5)]
      · cases e
      · rw [hl0] at h5
        refine ⟨by simp; omega, by simp; omega, fun hh => ?_, ?_⟩
        · subst h5
          rw [List.getElem_append_right (Nat.le_refl _)]
          simp only [Nat.sub_self, List.getElem_cons_zero]
          unfold fullP newP
          have : 1 ≤ 4096 / s := (Nat.le_div_iff_mul_le (by omega)).2 (by omega)
          exact decide_eq_false (by simp; omega)
        · rw [← HRR.out]
          unfold alA
          simp only
          rw [← HM.out, hl0, if_neg (by rw [List.length_map]; omega), if_neg (by rw [List.length_map]; omega), List.map_append]; rfl
    rw [hl0] at hA HA
    obtain ⟨hlt, hle, hnf, hput⟩ := HPUT.out
    have hnf := hnf hlt
    obtain ⟨gr, c, rfl, hgr, hcell⟩ := hA.at_ hlt
    obtain ⟨n, hn⟩ : ∃ n, Ps'.length = n := ⟨_, rfl⟩
    obtain ⟨⟨p, b, P⟩, hx⟩ : ∃ x, Ps'[l] = x := ⟨_, rfl⟩
    have hP1 : Ps'[l]? = some (p, b, P) := by rw [List.getElem?_eq_getElem hlt, hx]
    rw [hx] at hnf hcell
    simp only at hnf hcell
    have hmem : (p, b, P) ∈ Ps' := List.mem_of_getElem? hP1
    have hPP := hA.pgs _ hmem
    simp only at hPP
    have HPA := Lib.hid (hA.pa hmem)
    have HOO := Lib.hid (nextO_rg hPP h4 hnf)
    have HGR : Hid (gr ≠ p ∧ gr ≠ b) := by
      have := HPA.out.2.2.2
      exact ⟨fun e => this.1 (by rw [e]; rfl), fun e => this.2 (by rw [e]; rfl)⟩
    have HPI := Lib.hid hP1
    have HPM := Lib.hid hmem
    have HLT : Hid (l < n ∧ n ≤ 4096) := ⟨by omega, by omega⟩
    have HGD : Hid ((Ps'.map (fun x => x.2.2)).getD l newP = P) := by
      show _ = _
      rw [List.getD_eq_getElem?_getD, List.getElem?_map, hP1]; rfl
    have HPT := Lib.hid hput
    have hlt' : l < n := by omega
    have i5 := idx68 gr n c l (l : Int) rfl hlt'
    have K0 : Hid (SC a (.slice (some ⟨gr, 0, none⟩) n c) l gr p w1) := ⟨by rw [← hn]; exact hA.c.2.1, hA.c.2.2.1, hcell⟩
    have HNN : Hid (Ps'.length = n) := hn
    rw [HNN.out] at HA HSET
    clear hc hN hl0 hA hF hle hnf hput hgr hcell hx hP1 hmem hPP HPUT HIS HLO
    go_upto_region 5 with (fail)
    refine wp_region_noPanic ?_
    have hbd : Below w1.heap.size w1 w1.drew := Below.drew (Below.refl _ _)
    have HA2 := Lib.hid (HA.out.later hbd)
    have HF2 := Lib.hid (HF.out.trans (S' := ArSet a g v Ps) (FrS.of_below hbd) (fun i h => .inl h))
    clear hbd
    have HAL := Lib.hid (al_any B p b s P w1.drew (HA2.out.pgs _ HPM.out) h4)
    rw [HOO.out.2.1, HOO.out.2.2] at HAL
    refine wp_region_held_drew (S := SC a (.slice (some ⟨gr, 0, none⟩) n c) l gr p) (by kernel_rfl) K0.out (fun hHeld => ?_)
    refine wpAnyH_take (i := 0) (oi := { dst := some 13, op := Op.move (Operand.tmp 0), type := 22, pos := "arena.go:39", after := #[], guard := none }) (v := ?_) rfl (by kernel_rfl) (by kernel_rfl) (by kernel_rfl) (fun _ _ _ h => h) (Or.inl ⟨by rfl, ?_⟩) (by assumption) ?_
    rotate_left
    · intro W hSw
      obtain ⟨k1, k2, k3⟩ := hSw
      go_simp
      try with_reducible rfl
    simp only [Act.put, List.setIfInBounds_toArray, List.set_cons_zero, List.set_cons_succ]
    refine wpAnyH_take (i := 1) (oi := { dst := some 14, op := Op.nilCheck (Operand.tmp 13), type := 0, pos := "arena.go:39", after := #[{ on := 0, ground := Ground.data }], guard := none }) (v := ?_) rfl (by kernel_rfl) (by kernel_rfl) (by kernel_rfl) (fun _ _ _ h => h) (Or.inl ⟨by rfl, ?_⟩) (by assumption) ?_
    rotate_left
    · intro W hSw
      obtain ⟨k1, k2, k3⟩ := hSw
      go_simp
      try with_reducible rfl
    simp only [Act.put, List.setIfInBounds_toArray, List.set_cons_zero, List.set_cons_succ]
    refine wpAnyH_take (i := 2) (oi := { dst := some 15, op := Op.fieldAddr 71 (Operand.tmp 14) 1, type := 0, pos := "arena.go:39", after := #[{ on := 1, ground := Ground.data }], guard := none }) (v := ?_) rfl (by kernel_rfl) (by kernel_rfl) (by kernel_rfl) (fun _ _ _ h => h) (Or.inl ⟨by rfl, ?_⟩) (by assumption) ?_
    rotate_left
    · intro W hSw
      obtain ⟨k1, k2, k3⟩ := hSw
      go_simp
      try with_reducible rfl
    simp only [Act.put, List.setIfInBounds_toArray, List.set_cons_zero, List.set_cons_succ]
    refine wpAnyH_take (i := 3) (oi := { dst := some 16, op := Op.load 68 (Operand.tmp 15), type := 68, pos := "arena.go:39", after := #[{ on := 2, ground := Ground.data }], guard := none }) (v := ?_) rfl (by kernel_rfl) (by kernel_rfl) (by kernel_rfl) (fun _ _ _ h => h) (Or.inl ⟨by rfl, ?_⟩) (by assumption) ?_
    rotate_left
    · intro W hSw
      obtain ⟨k1, k2, k3⟩ := hSw
      go_simp
      try with_reducible rfl
    simp only [Act.put, List.setIfInBounds_toArray, List.set_cons_zero, List.set_cons_succ]
    refine wpAnyH_take (i := 4) (oi := { dst := some 17, op := Op.move (Operand.tmp 0), type := 22, pos := "arena.go:39", after := #[], guard := none }) (v := ?_) rfl (by kernel_rfl) (by kernel_rfl) (by kernel_rfl) (fun _ _ _ h => h) (Or.inl ⟨by rfl, ?_⟩) (by assumption) ?_
    rotate_left
    · intro W hSw
      obtain ⟨k1, k2, k3⟩ := hSw
      go_simp
      try with_reducible rfl
    simp only [Act.put, List.setIfInBounds_toArray, List.set_cons_zero, List.set_cons_succ]
    refine wpAnyH_take (i := 5) (oi := { dst := some 18, op := Op.nilCheck (Operand.tmp 17), type := 0, pos := "arena.go:39", after := #[{ on := 4, ground := Ground.data }], guard := none }) (v := ?_) rfl (by kernel_rfl) (by kernel_rfl) (by kernel_rfl) (fun _ _ _ h => h) (Or.inl ⟨by rfl, ?_⟩) (by assumption) ?_
    rotate_left
    · intro W hSw
      obtain ⟨k1, k2, k3⟩ := hSw
      go_simp
      try with_reducible rfl
    simp only [Act.put, List.setIfInBounds_toArray, List.set_cons_zero, List.set_cons_succ]
    refine wpAnyH_take (i := 6) (oi := { dst := some 19, op := Op.fieldAddr 71 (Operand.tmp 18) 2, type := 0, pos := "arena.go:39", after := #[{ on := 5, ground := Ground.data }], guard := none }) (v := ?_) rfl (by kernel_rfl) (by kernel_rfl) (by kernel_rfl) (fun _ _ _ h => h) (Or.inl ⟨by rfl, ?_⟩) (by assumption) ?_
    rotate_left
    · intro W hSw
      obtain ⟨k1, k2, k3⟩ := hSw
      go_simp
      try with_reducible rfl
    simp only [Act.put, List.setIfInBounds_toArray, List.set_cons_zero, List.set_cons_succ]
    refine wpAnyH_take (i := 7) (oi := { dst := some 20, op := Op.load 3 (Operand.tmp 19), type := 3, pos := "arena.go:39", after := #[{ on := 6, ground := Ground.data }], guard := none }) (v := ?_) rfl (by kernel_rfl) (by kernel_rfl) (by kernel_rfl) (fun _ _ _ h => h) (Or.inl ⟨by rfl, ?_⟩) (by assumption) ?_
    rotate_left
    · intro W hSw
      obtain ⟨k1, k2, k3⟩ := hSw
      go_simp
      try with_reducible rfl
    simp only [Act.put, List.setIfInBounds_toArray, List.set_cons_zero, List.set_cons_succ]
    refine wpAnyH_take (i := 8) (oi := { dst := some 21, op := Op.indexAddr 68 (Operand.tmp 16) (Operand.tmp 20), type := 0, pos := "arena.go:39", after := #[{ on := 3, ground := Ground.data }, { on := 7, ground := Ground.data }], guard := none }) (v := ?_) rfl (by kernel_rfl) (by kernel_rfl) (by kernel_rfl) (fun _ _ _ h => h) (Or.inl ⟨by rfl, ?_⟩) (by assumption) ?_
    rotate_left
    · intro W hSw
      obtain ⟨k1, k2, k3⟩ := hSw
      go_simp
      try with_reducible rfl
    simp only [Act.put, List.setIfInBounds_toArray, List.set_cons_zero, List.set_cons_succ]
    refine wpAnyH_take (i := 9) (oi := { dst := some 22, op := Op.load 67 (Operand.tmp 21), type := 67, pos := "arena.go:39", after := #[{ on := 8, ground := Ground.data }], guard := none }) (v := ?_) rfl (by kernel_rfl) (by kernel_rfl) (by kernel_rfl) (fun _ _ _ h => h) (Or.inl ⟨by rfl, ?_⟩) (by assumption) ?_
    rotate_left
    · intro W hSw
      obtain ⟨k1, k2, k3⟩ := hSw
      go_simp
      try with_reducible rfl
    simp only [Act.put, List.setIfInBounds_toArray, List.set_cons_zero, List.set_cons_succ]
    refine wpAnyH_ready (rs := [10]) (by kernel_rfl) (by simp) (AllReadyH.cons (o := { dst := some 23, op := Op.call { callee := Callee.value (Operand.func 36), args := #[Operand.tmp 22], argTypes := #[67] }, type := 66, pos := "arena.go:39", after := #[{ on := 9, ground := Ground.data }], guard := none }) rfl (fun K hK => ?_) AllReadyH.nil)
    refine step_callw (by rfl) 36 #[.pointer (some ⟨p, 0, none⟩)] (by go_simp) ?_
    refine (HAL.out).mono ?_
    rintro z w3 ⟨rfl, hp, hf⟩
    have HA3 := Lib.hid (HA2.out.page HPI.out hf hp)
    have HF3 := Lib.hid (HF2.out.trans (FrS.of_fr hf (S := ArSet a g (.slice (some ⟨gr, 0, none⟩) n c) Ps') (.inr (.inr (.inr ⟨_, HPM.out, .inl rfl⟩))) (.inr (.inr (.inr ⟨_, HPM.out, .inr rfl⟩)))) HSET.out)
    have S2 : SC a (.slice (some ⟨gr, 0, none⟩) n c) l gr p w3 := by
      refine ⟨?_, ?_, ?_⟩
      · rw [← hHeld.1]; exact World.cell?_of_block (a := ⟨a, 1, none⟩) (hf.block a (lt_of_cell hHeld.1) (Ne.symm HPA.out.1) (Ne.symm HPA.out.2.1))
      · rw [← hHeld.2.1]; exact World.cell?_of_block (a := ⟨a, 2, none⟩) (hf.block a (lt_of_cell hHeld.2.1) (Ne.symm HPA.out.1) (Ne.symm HPA.out.2.1))
      · rw [← hHeld.2.2]; exact World.cell?_of_block (a := ⟨gr, l, none⟩) (hf.block gr (lt_of_cell hHeld.2.2) HGR.out.1 HGR.out.2)
    refine ⟨_, rfl, hK.out _ _ S2 (fun hHeld2 => ?_)⟩
    clear hK K hHeld HAL hp hf S2 K0
    simp only [Act.put, List.setIfInBounds_toArray, List.set_cons_zero, List.set_cons_succ]
    refine wpAnyH_take (i := 11) (oi := { dst := some 12, op := Op.move (Operand.tmp 23), type := 66, pos := "arena.go:39", after := #[{ on := 10, ground := Ground.data }], guard := none }) (v := ?_) rfl (by kernel_rfl) (by kernel_rfl) (by kernel_rfl) (fun _ _ _ h => h) (Or.inl ⟨by rfl, ?_⟩) (by assumption) ?_
    rotate_left
    · intro W hSw
      obtain ⟨k1, k2, k3⟩ := hSw
      go_simp
      try with_reducible rfl
    simp only [Act.put, List.setIfInBounds_toArray, List.set_cons_zero, List.set_cons_succ]
    refine wpAnyH_take (i := 12) (oi := { dst := some 24, op := Op.extract (Operand.tmp 12) 0, type := 41, pos := "arena.go:39", after := #[{ on := 11, ground := Ground.data }], guard := none }) (v := ?_) rfl (by kernel_rfl) (by kernel_rfl) (by kernel_rfl) (fun _ _ _ h => h) (Or.inl ⟨by rfl, ?_⟩) (by assumption) ?_
    rotate_left
    · intro W hSw
      obtain ⟨k1, k2, k3⟩ := hSw
      go_simp
      try with_reducible rfl
    simp only [Act.put, List.setIfInBounds_toArray, List.set_cons_zero, List.set_cons_succ]
    refine wpAnyH_take (i := 13) (oi := { dst := some 25, op := Op.extract (Operand.tmp 12) 1, type := 25, pos := "arena.go:39", after := #[{ on := 11, ground := Ground.data }, { on := 14, ground := Ground.gcOnly Departure.lateStores }], guard := none }) (v := ?_) rfl (by kernel_rfl) (by kernel_rfl) (by kernel_rfl) (fun _ _ _ h => h) (Or.inl ⟨by rfl, ?_⟩) (by assumption) ?_
    rotate_left
    · intro W hSw
      obtain ⟨k1, k2, k3⟩ := hSw
      go_simp
      try with_reducible rfl
    simp only [Act.put, List.setIfInBounds_toArray, List.set_cons_zero, List.set_cons_succ]
    refine wpAnyH_take (i := 14) (oi := { dst := some 4, op := Op.assign (Operand.tmp 24), type := 41, pos := "arena.go:39", after := #[{ on := 12, ground := Ground.data }, { on := 10, ground := Ground.chain }, { on := 0, ground := Ground.phase }, { on := 1, ground := Ground.phase }, { on := 2, ground := Ground.phase }, { on := 3, ground := Ground.phase }, { on := 4, ground := Ground.phase }, { on := 5, ground := Ground.phase }, { on := 6, ground := Ground.phase }, { on := 7, ground := Ground.phase }, { on := 8, ground := Ground.phase }, { on := 9, ground := Ground.phase }, { on := 10, ground := Ground.phase }, { on := 11, ground := Ground.phase }, { on := 12, ground := Ground.phase }, { on := 13, ground := Ground.textOnly Departure.lateStores }], guard := none }) (v := ?_) rfl (by kernel_rfl) (by kernel_rfl) (by kernel_rfl) (fun _ _ _ h => h) (Or.inl ⟨by rfl, ?_⟩) (by assumption) ?_
    rotate_left
    · intro W hSw
      obtain ⟨k1, k2, k3⟩ := hSw
      go_simp
      try with_reducible rfl
    simp only [Act.put, List.setIfInBounds_toArray, List.set_cons_zero, List.set_cons_succ]
    refine wpAnyH_take (i := 15) (oi := { dst := some 5, op := Op.assign (Operand.tmp 25), type := 25, pos := "arena.go:39", after := #[{ on := 13, ground := Ground.data }, { on := 14, ground := Ground.chain }, { on := 0, ground := Ground.phase }, { on := 1, ground := Ground.phase }, { on := 2, ground := Ground.phase }, { on := 3, ground := Ground.phase }, { on := 4, ground := Ground.phase }, { on := 5, ground := Ground.phase }, { on := 6, ground := Ground.phase }, { on := 7, ground := Ground.phase }, { on := 8, ground := Ground.phase }, { on := 9, ground := Ground.phase }, { on := 10, ground := Ground.phase }, { on := 11, ground := Ground.phase }, { on := 12, ground := Ground.phase }, { on := 13, ground := Ground.phase }, { on := 14, ground := Ground.phase }], guard := none }) (v := ?_) rfl (by kernel_rfl) (by kernel_rfl) (by kernel_rfl) (fun _ _ _ h => h) (Or.inl ⟨by rfl, ?_⟩) (by assumption) ?_
    rotate_left
    · intro W hSw
      obtain ⟨k1, k2, k3⟩ := hSw
      go_simp
      try with_reducible rfl
    simp only [Act.put, List.setIfInBounds_toArray, List.set_cons_zero, List.set_cons_succ]
    refine wpAnyH_done (by kernel_rfl) (NoPanic.normal ?_) _
    clear hHeld2 i5 HA HF HA2 HF2
    obtain ⟨o, ho⟩ : ∃ o, nextO s P = o := ⟨_, rfl⟩
    have HO := Lib.hid ho
    have ho4 : o ≤ 4095 := by have := HOO.out.1; omega
    rw [ho]
    clear ho
    generalize hPS2 : Ps'.set l (p, b, alS s P) = Ps2 at *
    have HPS2 := Lib.hid hPS2
    clear hPS2
    have hl96 : l ≤ 4095 := by have := HLT.out; omega
    have wl : IntKind.u16.wrap (l : Int) = (l : Int) := by simp [IntKind.wrap, IntKind.bits, IntKind.signed]; omega
    have c2 := HA3.out.c.2.2.1
    go_upto_region 9 with (fail)
    have hbx : Below w3.heap.size w3 (w3.alloc (.cells #[.int .u16 (l : Int), .int .u16 (o : Int)] 74)) := (Below.refl _ _).alloc (Nat.le_refl _) _
    have HX : Hid (Blk (w3.alloc (.cells #[.int .u16 (l : Int), .int .u16 (o : Int)] 74)) w3.heap.size #[.int .u16 (l : Int), .int .u16 (o : Int)] 74) := Blk.new _ _ _
    have HA4 := Lib.hid (HA3.out.later hbx)
    have HF4 := Lib.hid (HF3.out.trans (S' := ArSet a g v Ps) (FrS.of_below hbx) (fun i h => .inl h))
    clear hbx c2 wl
    generalize w3.alloc (.cells #[.int .u16 (l : Int), .int .u16 (o : Int)] 74) = w4 at *
    generalize w3.heap.size = px at *
    have HZ : Hid (gn.nmv (zOf l o) = .agg #[.int .u16 (l : Int), .int .u16 (o : Int)]) := by
      show _ = _
      unfold gn.nmv zOf
      rw [show ((l : Int) * 65536 + (o : Int)) / 65536 = (l : Int) from by omega, show ((l : Int) * 65536 + (o : Int)) % 65536 = (o : Int) from by omega]
    have HRG : Hid (gn.rg (zOf l o)) := by show _ ∧ _; unfold zOf; omega
    obtain ⟨gc, hgc⟩ : ∃ gc, gn.ofC G (zOf l o) = gc := ⟨_, rfl⟩
    obtain ⟨nn, hnn⟩ : ∃ nn : Int, (gc + 1) % 4294967296 = nn := ⟨_, rfl⟩
    have HGC := Lib.hid hgc
    have HNV := Lib.hid hnn
    have hn0 : 0 ≤ nn ∧ nn ≤ 4294967295 := by omega
    have HN0 := Lib.hid hn0
    have wn : IntKind.u32.wrap (gc + 1) = nn := by rw [IntKind.wrap_u32]; exact hnn
    have hbd : Below w4.heap.size w4 w4.drew := Below.drew (Below.refl _ _)
    have HA5 := Lib.hid (HA4.out.later hbd)
    have HX5 := Lib.hid (HX.out.later hbd)
    have HF5 := Lib.hid (HF4.out.trans (S' := ArSet a g v Ps) (FrS.of_below hbd) (fun i h => .inl h))
    have hL0 := look69 HA5.out.gens HA5.out.gok HRG.out
    obtain ⟨sst, W1, W2, hm1, hL1, hm2, ho, hg1, hg⟩ := gens_inc (W := w4.drew) (n := nn) HA5.out.gens HA5.out.gok HRG.out (wf32 hn0.1 hn0.2) hG
    rw [HZ.out, HGC.out] at hm1 hL1 hL0
    have hS3 : SK a g px l o w4.drew := ⟨HA5.out.c.2.2.2, HX5.out.cell 0, HX5.out.cell 1⟩
    have hpg : some px ≠ some g := fun e => by
      obtain ⟨es, z, hh⟩ := HA5.out.tg
      have h9 : w4.drew.heap[px]? = some (.cells _ 74 (0, 0)) := HX5.out
      rw [Option.some.inj e, hh] at h9; cases h9
    have hag : some a ≠ some g := fun e => HA5.out.ag (Option.some.inj e)
    have hSK : ∀ W, w4.drew.grownBy W (some g) → SK a g px l o W := fun W hW => ⟨by
      rw [← hS3.1]; exact World.cell?_of_block (a := ⟨a, 3, none⟩) (hW.block a (lt_of_cell hS3.1) hag), by
      rw [← hS3.2.1]; exact World.cell?_of_block (a := ⟨px, 0, none⟩) (hW.block px (lt_of_cell hS3.2.1) hpg), by
      rw [← hS3.2.2]; exact World.cell?_of_block (a := ⟨px, 1, none⟩) (hW.block px (lt_of_cell hS3.2.2) hpg)⟩
    have HS1 := Lib.hid (hSK _ hg1)
    have HS2 := Lib.hid (hSK _ hg)
    have HA6 := Lib.hid (HA5.out.gens_turn hg ho (HA5.out.gok.put HRG.out (wf32 hn0.1 hn0.2)))
    have HX6 : Hid (Blk W2 px #[.int .u16 (l : Int), .int .u16 (o : Int)] 74) := Lib.hid (HX5.out.grown hg hpg)
    have HF6 := Lib.hid (HF5.out.trans (FrS.of_grown hg (S := ArSet a g (.slice (some ⟨gr, 0, none⟩) n c) Ps2) (fun k e => .inr (.inl (Option.some.inj e).symm))) (fun k hk => HSET.out k (by rw [← HPS2.out] at hk; exact ArSet.page HPI.out hk)))
    have hGP := gn.of_put HA5.out.gok HRG.out (wf32 hn0.1 hn0.2)
    have HGP := Lib.hid hGP
    have HS3 := Lib.hid hS3
    clear hbd hgc hnn hn0 ho hg hg1 HA3 HF3 HA4 HF4 HX hSK hpg hag hGP hS3
    refine wp_region_noPanic ?_
    refine wp_region_held_drew (S := SK a g px l o) (by kernel_rfl) HS3.out (fun hHeld => ?_)
    refine wpAnyH_take (i := 0) (oi := { dst := some 36, op := Op.move (Operand.tmp 0), type := 22, pos := "arena.go:44", after := #[], guard := none }) (v := ?_) rfl (by kernel_rfl) (by kernel_rfl) (by kernel_rfl) (fun _ _ _ h => h) (Or.inl ⟨by rfl, ?_⟩) (by assumption) ?_
    rotate_left
    · intro W hSw
      obtain ⟨k1, k2, k3⟩ := hSw
      go_simp
      try with_reducible rfl
    simp only [Act.put, List.setIfInBounds_toArray, List.set_cons_zero, List.set_cons_succ]
    refine wpAnyH_take (i := 1) (oi := { dst := some 37, op := Op.nilCheck (Operand.tmp 36), type := 0, pos := "arena.go:44", after := #[{ on := 0, ground := Ground.data }], guard := none }) (v := ?_) rfl (by kernel_rfl) (by kernel_rfl) (by kernel_rfl) (fun _ _ _ h => h) (Or.inl ⟨by rfl, ?_⟩) (by assumption) ?_
    rotate_left
    · intro W hSw
      obtain ⟨k1, k2, k3⟩ := hSw
      go_simp
      try with_reducible rfl
    simp only [Act.put, List.setIfInBounds_toArray, List.set_cons_zero, List.set_cons_succ]
    refine wpAnyH_take (i := 2) (oi := { dst := some 38, op := Op.fieldAddr 71 (Operand.tmp 37) 3, type := 0, pos := "arena.go:44", after := #[{ on := 1, ground := Ground.data }], guard := none }) (v := ?_) rfl (by kernel_rfl) (by kernel_rfl) (by kernel_rfl) (fun _ _ _ h => h) (Or.inl ⟨by rfl, ?_⟩) (by assumption) ?_
    rotate_left
    · intro W hSw
      obtain ⟨k1, k2, k3⟩ := hSw
      go_simp
      try with_reducible rfl
    simp only [Act.put, List.setIfInBounds_toArray, List.set_cons_zero, List.set_cons_succ]
    refine wpAnyH_take (i := 3) (oi := { dst := some 39, op := Op.load 69 (Operand.tmp 38), type := 69, pos := "arena.go:44", after := #[{ on := 2, ground := Ground.data }], guard := none }) (v := ?_) rfl (by kernel_rfl) (by kernel_rfl) (by kernel_rfl) (fun _ _ _ h => h) (Or.inl ⟨by rfl, ?_⟩) (by assumption) ?_
    rotate_left
    · intro W hSw
      obtain ⟨k1, k2, k3⟩ := hSw
      go_simp
      try with_reducible rfl
    simp only [Act.put, List.setIfInBounds_toArray, List.set_cons_zero, List.set_cons_succ]
    refine wpAnyH_take (i := 4) (oi := { dst := some 40, op := Op.load 74 (Operand.tmp 6), type := 74, pos := "arena.go:44", after := #[], guard := none }) (v := ?_) rfl (by kernel_rfl) (by kernel_rfl) (by kernel_rfl) (fun _ _ _ h => h) (Or.inl ⟨by rfl, ?_⟩) (by assumption) ?_
    rotate_left
    · intro W hSw
      obtain ⟨k1, k2, k3⟩ := hSw
      go_simp
      try with_reducible rfl
    simp only [Act.put, List.setIfInBounds_toArray, List.set_cons_zero, List.set_cons_succ]
    refine wpAnyH_ready (rs := [5, 7]) (by kernel_rfl) (by simp) (AllReadyH.cons (o := { dst := some 41, op := Op.lookup 69 (Operand.tmp 39) (Operand.tmp 40) false, type := 42, pos := "arena.go:44", after := #[{ on := 3, ground := Ground.data }, { on := 4, ground := Ground.data }], guard := none }) rfl (fun K hK => ?_) (AllReadyH.cons (o := { dst := some 43, op := Op.mapEntry 69 (Operand.tmp 39) (Operand.tmp 40), type := 0, pos := "arena.go:44", after := #[{ on := 3, ground := Ground.data }, { on := 4, ground := Ground.data }, { on := 0, ground := Ground.phase }, { on := 1, ground := Ground.phase }, { on := 2, ground := Ground.phase }, { on := 3, ground := Ground.phase }, { on := 4, ground := Ground.phase }, { on := 5, ground := Ground.textOnly Departure.mapOpAssignEntry }, { on := 6, ground := Ground.textOnly Departure.mapOpAssignEntry }], guard := none }) rfl (fun K hK => ?_) AllReadyH.nil))
    rotate_left
    · go_simp
      refine hK.out _ _ HS1.out (fun hHeld2 => ?_)
      clear hK K hHeld
      have hHeld := hHeld2
      clear hHeld2
      try simp only [Act.put, List.setIfInBounds_toArray, List.set_cons_zero, List.set_cons_succ]
      refine wpAnyH_take (i := 8) (oi := { dst := some 44, op := Op.extract (Operand.tmp 43) 1, type := 3, pos := "arena.go:44", after := #[{ on := 7, ground := Ground.data }], guard := none }) (v := ?_) rfl (by kernel_rfl) (by kernel_rfl) (by kernel_rfl) (fun _ _ _ h => h) (Or.inl ⟨by rfl, ?_⟩) (by assumption) ?_
      rotate_left
      · intro W hSw
        obtain ⟨k1, k2, k3⟩ := hSw
        go_simp
        try with_reducible rfl
      simp only [Act.put, List.setIfInBounds_toArray, List.set_cons_zero, List.set_cons_succ]
      refine wpAnyH_ready (rs := [5]) (by kernel_rfl) (by simp) (AllReadyH.cons (o := { dst := some 41, op := Op.lookup 69 (Operand.tmp 39) (Operand.tmp 40) false, type := 42, pos := "arena.go:44", after := #[{ on := 3, ground := Ground.data }, { on := 4, ground := Ground.data }], guard := none }) rfl (fun K hK => ?_) AllReadyH.nil)
      go_simp
      refine hK.out _ _ HS1.out (fun hHeld => ?_)
      clear hK K
      try simp only [Act.put, List.setIfInBounds_toArray, List.set_cons_zero, List.set_cons_succ]
      refine wpAnyH_take (i := 6) (oi := { dst := some 42, op := Op.binOp BinOp.add 42 (Operand.tmp 41) (Operand.const (Value.int IntKind.u32 1)) 42, type := 42, pos := "arena.go:44", after := #[{ on := 5, ground := Ground.data }], guard := none }) (v := ?_) rfl (by kernel_rfl) (by kernel_rfl) (by kernel_rfl) (fun _ _ _ h => h) (Or.inl ⟨by rfl, ?_⟩) (by assumption) ?_
      rotate_left
      · intro W hSw
        obtain ⟨k1, k2, k3⟩ := hSw
        go_simp
        try with_reducible rfl
      simp only [Act.put, List.setIfInBounds_toArray, List.set_cons_zero, List.set_cons_succ]
      refine wpAnyH_ready (rs := [9]) (by kernel_rfl) (by simp) (AllReadyH.cons (o := { dst := none, op := Op.entryStore 69 (Operand.tmp 39) (Operand.tmp 44) (Operand.tmp 42), type := 0, pos := "arena.go:44", after := #[{ on := 3, ground := Ground.data }, { on := 8, ground := Ground.data }, { on := 6, ground := Ground.data }, { on := 7, ground := Ground.chain }, { on := 0, ground := Ground.phase }, { on := 1, ground := Ground.phase }, { on := 2, ground := Ground.phase }, { on := 3, ground := Ground.phase }, { on := 4, ground := Ground.phase }, { on := 5, ground := Ground.phase }, { on := 6, ground := Ground.phase }, { on := 7, ground := Ground.phase }, { on := 8, ground := Ground.phase }], guard := none }) rfl (fun K hK => ?_) AllReadyH.nil)
      go_simp
      refine hK.out _ _ HS2.out (fun hHeld => ?_)
      clear hK K
      try simp only [Act.put, List.setIfInBounds_toArray, List.set_cons_zero, List.set_cons_succ]
      refine wpAnyH_done (by kernel_rfl) (NoPanic.normal ?_) _
      clear hm1 hm2 hL0 hL1 wn
      clear hHeld
      go_upto_region 10 with (fail)
      have hbd : Below W2.heap.size W2 W2.drew := Below.drew (Below.refl _ _)
      have HA7 := Lib.hid (HA6.out.later hbd)
      have HX7 := Lib.hid (HX6.out.later hbd)
      have HF7 := Lib.hid (HF6.out.trans (S' := ArSet a g v Ps) (FrS.of_below hbd) (fun i h => .inl h))
      have HS7 : Hid (SL a g px l o nn W2.drew) := by
        have h := look69 HA7.out.gens HA7.out.gok HRG.out
        rw [HZ.out, HGP.out] at h
        exact ⟨HA7.out.c.2.2.2, HX7.out.cell 0, HX7.out.cell 1, h⟩
      have HHD := Lib.hid (handle_x (l : Int) (o : Int) nn W2.drew (by omega) (by omega) (by omega) (by omega) HN0.out.1 HN0.out.2)
      clear hbd
      refine wp_region_noPanic ?_
      refine wp_region_held_drew (S := SL a g px l o nn) (by kernel_rfl) HS7.out (fun hHeld => ?_)
      refine wpAnyH_take (i := 0) (oi := { dst := some 45, op := Op.fieldAddr 74 (Operand.tmp 6) 0, type := 0, pos := "arena.go:45", after := #[], guard := none }) (v := ?_) rfl (by kernel_rfl) (by kernel_rfl) (by kernel_rfl) (fun _ _ _ h => h) (Or.inl ⟨by rfl, ?_⟩) (by assumption) ?_
      rotate_left
      · intro W hSw
        obtain ⟨k1, k2, k3, k4⟩ := hSw
        go_simp
        try with_reducible rfl
      simp only [Act.put, List.setIfInBounds_toArray, List.set_cons_zero, List.set_cons_succ]
      refine wpAnyH_take (i := 1) (oi := { dst := some 46, op := Op.load 41 (Operand.tmp 45), type := 41, pos := "arena.go:45", after := #[{ on := 0, ground := Ground.data }], guard := none }) (v := ?_) rfl (by kernel_rfl) (by kernel_rfl) (by kernel_rfl) (fun _ _ _ h => h) (Or.inl ⟨by rfl, ?_⟩) (by assumption) ?_
      rotate_left
      · intro W hSw
        obtain ⟨k1, k2, k3, k4⟩ := hSw
        go_simp
        try with_reducible rfl
      simp only [Act.put, List.setIfInBounds_toArray, List.set_cons_zero, List.set_cons_succ]
      refine wpAnyH_take (i := 2) (oi := { dst := some 47, op := Op.fieldAddr 74 (Operand.tmp 6) 1, type := 0, pos := "arena.go:45", after := #[], guard := none }) (v := ?_) rfl (by kernel_rfl) (by kernel_rfl) (by kernel_rfl) (fun _ _ _ h => h) (Or.inl ⟨by rfl, ?_⟩) (by assumption) ?_
      rotate_left
      · intro W hSw
        obtain ⟨k1, k2, k3, k4⟩ := hSw
        go_simp
        try with_reducible rfl
      simp only [Act.put, List.setIfInBounds_toArray, List.set_cons_zero, List.set_cons_succ]
      refine wpAnyH_take (i := 3) (oi := { dst := some 48, op := Op.load 41 (Operand.tmp 47), type := 41, pos := "arena.go:45", after := #[{ on := 2, ground := Ground.data }], guard := none }) (v := ?_) rfl (by kernel_rfl) (by kernel_rfl) (by kernel_rfl) (fun _ _ _ h => h) (Or.inl ⟨by rfl, ?_⟩) (by assumption) ?_
      rotate_left
      · intro W hSw
        obtain ⟨k1, k2, k3, k4⟩ := hSw
        go_simp
        try with_reducible rfl
      simp only [Act.put, List.setIfInBounds_toArray, List.set_cons_zero, List.set_cons_succ]
      refine wpAnyH_take (i := 4) (oi := { dst := some 49, op := Op.move (Operand.tmp 0), type := 22, pos := "arena.go:45", after := #[], guard := none }) (v := ?_) rfl (by kernel_rfl) (by kernel_rfl) (by kernel_rfl) (fun _ _ _ h => h) (Or.inl ⟨by rfl, ?_⟩) (by assumption) ?_
      rotate_left
      · intro W hSw
        obtain ⟨k1, k2, k3, k4⟩ := hSw
        go_simp
        try with_reducible rfl
      simp only [Act.put, List.setIfInBounds_toArray, List.set_cons_zero, List.set_cons_succ]
      refine wpAnyH_take (i := 5) (oi := { dst := some 50, op := Op.nilCheck (Operand.tmp 49), type := 0, pos := "arena.go:45", after := #[{ on := 4, ground := Ground.data }], guard := none }) (v := ?_) rfl (by kernel_rfl) (by kernel_rfl) (by kernel_rfl) (fun _ _ _ h => h) (Or.inl ⟨by rfl, ?_⟩) (by assumption) ?_
      rotate_left
      · intro W hSw
        obtain ⟨k1, k2, k3, k4⟩ := hSw
        go_simp
        try with_reducible rfl
      simp only [Act.put, List.setIfInBounds_toArray, List.set_cons_zero, List.set_cons_succ]
      refine wpAnyH_take (i := 6) (oi := { dst := some 51, op := Op.fieldAddr 71 (Operand.tmp 50) 3, type := 0, pos := "arena.go:45", after := #[{ on := 5, ground := Ground.data }], guard := none }) (v := ?_) rfl (by kernel_rfl) (by kernel_rfl) (by kernel_rfl) (fun _ _ _ h => h) (Or.inl ⟨by rfl, ?_⟩) (by assumption) ?_
      rotate_left
      · intro W hSw
        obtain ⟨k1, k2, k3, k4⟩ := hSw
        go_simp
        try with_reducible rfl
      simp only [Act.put, List.setIfInBounds_toArray, List.set_cons_zero, List.set_cons_succ]
      refine wpAnyH_take (i := 7) (oi := { dst := some 52, op := Op.load 69 (Operand.tmp 51), type := 69, pos := "arena.go:45", after := #[{ on := 6, ground := Ground.data }], guard := none }) (v := ?_) rfl (by kernel_rfl) (by kernel_rfl) (by kernel_rfl) (fun _ _ _ h => h) (Or.inl ⟨by rfl, ?_⟩) (by assumption) ?_
      rotate_left
      · intro W hSw
        obtain ⟨k1, k2, k3, k4⟩ := hSw
        go_simp
        try with_reducible rfl
      simp only [Act.put, List.setIfInBounds_toArray, List.set_cons_zero, List.set_cons_succ]
      refine wpAnyH_take (i := 8) (oi := { dst := some 53, op := Op.load 74 (Operand.tmp 6), type := 74, pos := "arena.go:45", after := #[], guard := none }) (v := ?_) rfl (by kernel_rfl) (by kernel_rfl) (by kernel_rfl) (fun _ _ _ h => h) (Or.inl ⟨by rfl, ?_⟩) (by assumption) ?_
      rotate_left
      · intro W hSw
        obtain ⟨k1, k2, k3, k4⟩ := hSw
        go_simp
        try with_reducible rfl
      simp only [Act.put, List.setIfInBounds_toArray, List.set_cons_zero, List.set_cons_succ]
      refine wpAnyH_take (i := 9) (oi := { dst := some 54, op := Op.lookup 69 (Operand.tmp 52) (Operand.tmp 53) false, type := 42, pos := "arena.go:45", after := #[{ on := 7, ground := Ground.data }, { on := 8, ground := Ground.data }], guard := none }) (v := ?_) rfl (by kernel_rfl) (by kernel_rfl) (by kernel_rfl) (fun _ _ _ h => h) (Or.inl ⟨by rfl, ?_⟩) (by assumption) ?_
      rotate_left
      · intro W hSw
        obtain ⟨k1, k2, k3, k4⟩ := hSw
        go_simp
        try with_reducible rfl
      simp only [Act.put, List.setIfInBounds_toArray, List.set_cons_zero, List.set_cons_succ]
      refine wpAnyH_ready (rs := [10]) (by kernel_rfl) (by simp) (AllReadyH.cons (o := { dst := some 55, op := Op.call { callee := Callee.value (Operand.func 22), args := #[Operand.tmp 46, Operand.tmp 48, Operand.tmp 54], argTypes := #[41, 41, 42] }, type := 24, pos := "arena.go:45", after := #[{ on := 1, ground := Ground.data }, { on := 3, ground := Ground.data }, { on := 9, ground := Ground.data }], guard := none }) rfl (fun K hK => ?_) AllReadyH.nil)
      refine step_callw (by rfl) 22 #[.int .u16 (l : Int), .int .u16 (o : Int), .int .u32 nn] (by go_simp) ?_
      refine (HHD.out).mono ?_
      rintro z w9 ⟨rfl, rfl⟩
      refine ⟨_, rfl, hK.out _ _ HS7.out (fun hHeld2 => ?_)⟩
      clear hK K hHeld HHD
      simp only [Act.put, List.setIfInBounds_toArray, List.set_cons_zero, List.set_cons_succ]
      refine wpAnyH_take (i := 11) (oi := { dst := some 2, op := Op.assign (Operand.tmp 55), type := 24, pos := "arena.go:45", after := #[{ on := 10, ground := Ground.data }, { on := 10, ground := Ground.chain }, { on := 0, ground := Ground.phase }, { on := 1, ground := Ground.phase }, { on := 2, ground := Ground.phase }, { on := 3, ground := Ground.phase }, { on := 4, ground := Ground.phase }, { on := 5, ground := Ground.phase }, { on := 6, ground := Ground.phase }, { on := 7, ground := Ground.phase }, { on := 8, ground := Ground.phase }, { on := 9, ground := Ground.phase }, { on := 10, ground := Ground.phase }], guard := none }) (v := ?_) rfl (by kernel_rfl) (by kernel_rfl) (by kernel_rfl) (fun _ _ _ h => h) (Or.inl ⟨by rfl, ?_⟩) (by assumption) ?_
      rotate_left
      · intro W hSw
        obtain ⟨k1, k2, k3, k4⟩ := hSw
        go_simp
        try with_reducible rfl
      simp only [Act.put, List.setIfInBounds_toArray, List.set_cons_zero, List.set_cons_succ]
      refine wpAnyH_take (i := 12) (oi := { dst := some 3, op := Op.assign (Operand.const (Value.int IntKind.i64 0)), type := 25, pos := "arena.go:45", after := #[{ on := 11, ground := Ground.chain }, { on := 0, ground := Ground.phase }, { on := 1, ground := Ground.phase }, { on := 2, ground := Ground.phase }, { on := 3, ground := Ground.phase }, { on := 4, ground := Ground.phase }, { on := 5, ground := Ground.phase }, { on := 6, ground := Ground.phase }, { on := 7, ground := Ground.phase }, { on := 8, ground := Ground.phase }, { on := 9, ground := Ground.phase }, { on := 10, ground := Ground.phase }, { on := 11, ground := Ground.phase }], guard := none }) (v := ?_) rfl (by kernel_rfl) (by kernel_rfl) (by kernel_rfl) (fun _ _ _ h => h) (Or.inl ⟨by rfl, ?_⟩) (by assumption) ?_
      rotate_left
      · intro W hSw
        obtain ⟨k1, k2, k3, k4⟩ := hSw
        go_simp
        try with_reducible rfl
      simp only [Act.put, List.setIfInBounds_toArray, List.set_cons_zero, List.set_cons_succ]
      refine wpAnyH_done (by kernel_rfl) (NoPanic.normal ?_) _
      go_wp2
      go_ret2
      have hpt := HPT.out
      unfold putA at hpt
      rw [HGD.out, HO.out, HGC.out, HNV.out] at hpt
      simp only [Prod.mk.injEq] at hpt
      obtain ⟨e1, e2, e3⟩ := hpt
      have hlen : ((Ps'.map (fun x => x.2.2)).set l (alS s P)).length = n := by rw [List.length_set, List.length_map]; exact HNN.out
      refine ⟨by rw [e2, e3]; rfl, _, ⟨g, _, Ps2, ?_, ?_, rfl, ?_, ?_⟩, fun k hk => HSET.out k (by rw [← HPS2.out] at hk; exact ArSet.page HPI.out hk), HF7.out⟩
      · rw [e1]; exact HA7.out
      · rw [e1, ← HPS2.out, List.map_set]
      · rw [e1]; simp only; rw [hlen]; have := HLT.out.1; omega
      · rw [e1]; simp only; rw [hlen]; exact HLT.out.2

    · go_simp
      refine hK.out _ _ HS3.out (fun hHeld2 => ?_)
      clear hK K hHeld
      have hHeld := hHeld2
      clear hHeld2
      try simp only [Act.put, List.setIfInBounds_toArray, List.set_cons_zero, List.set_cons_succ]
      refine wpAnyH_take (i := 6) (oi := { dst := some 42, op := Op.binOp BinOp.add 42 (Operand.tmp 41) (Operand.const (Value.int IntKind.u32 1)) 42, type := 42, pos := "arena.go:44", after := #[{ on := 5, ground := Ground.data }], guard := none }) (v := ?_) rfl (by kernel_rfl) (by kernel_rfl) (by kernel_rfl) (fun _ _ _ h => h) (Or.inl ⟨by rfl, ?_⟩) (by assumption) ?_
      rotate_left
      · intro W hSw
        obtain ⟨k1, k2, k3⟩ := hSw
        go_simp
        try with_reducible rfl
      simp only [Act.put, List.setIfInBounds_toArray, List.set_cons_zero, List.set_cons_succ]
      refine wpAnyH_ready (rs := [7]) (by kernel_rfl) (by simp) (AllReadyH.cons (o := { dst := some 43, op := Op.mapEntry 69 (Operand.tmp 39) (Operand.tmp 40), type := 0, pos := "arena.go:44", after := #[{ on := 3, ground := Ground.data }, { on := 4, ground := Ground.data }, { on := 0, ground := Ground.phase }, { on := 1, ground := Ground.phase }, { on := 2, ground := Ground.phase }, { on := 3, ground := Ground.phase }, { on := 4, ground := Ground.phase }, { on := 5, ground := Ground.textOnly Departure.mapOpAssignEntry }, { on := 6, ground := Ground.textOnly Departure.mapOpAssignEntry }], guard := none }) rfl (fun K hK => ?_) AllReadyH.nil)
      go_simp
      refine hK.out _ _ HS1.out (fun hHeld => ?_)
      clear hK K
      try simp only [Act.put, List.setIfInBounds_toArray, List.set_cons_zero, List.set_cons_succ]
      refine wpAnyH_take (i := 8) (oi := { dst := some 44, op := Op.extract (Operand.tmp 43) 1, type := 3, pos := "arena.go:44", after := #[{ on := 7, ground := Ground.data }], guard := none }) (v := ?_) rfl (by kernel_rfl) (by kernel_rfl) (by kernel_rfl) (fun _ _ _ h => h) (Or.inl ⟨by rfl, ?_⟩) (by assumption) ?_
      rotate_left
      · intro W hSw
        obtain ⟨k1, k2, k3⟩ := hSw
        go_simp
        try with_reducible rfl
      simp only [Act.put, List.setIfInBounds_toArray, List.set_cons_zero, List.set_cons_succ]
      refine wpAnyH_ready (rs := [9]) (by kernel_rfl) (by simp) (AllReadyH.cons (o := { dst := none, op := Op.entryStore 69 (Operand.tmp 39) (Operand.tmp 44) (Operand.tmp 42), type := 0, pos := "arena.go:44", after := #[{ on := 3, ground := Ground.data }, { on := 8, ground := Ground.data }, { on := 6, ground := Ground.data }, { on := 7, ground := Ground.chain }, { on := 0, ground := Ground.phase }, { on := 1, ground := Ground.phase }, { on := 2, ground := Ground.phase }, { on := 3, ground := Ground.phase }, { on := 4, ground := Ground.phase }, { on := 5, ground := Ground.phase }, { on := 6, ground := Ground.phase }, { on := 7, ground := Ground.phase }, { on := 8, ground := Ground.phase }], guard := none }) rfl (fun K hK => ?_) AllReadyH.nil)
      go_simp
      refine hK.out _ _ HS2.out (fun hHeld => ?_)
      clear hK K
      try simp only [Act.put, List.setIfInBounds_toArray, List.set_cons_zero, List.set_cons_succ]
      refine wpAnyH_done (by kernel_rfl) (NoPanic.normal ?_) _
      clear hm1 hm2 hL0 hL1 wn
      clear hHeld
      go_upto_region 10 with (fail)
      have hbd : Below W2.heap.size W2 W2.drew := Below.drew (Below.refl _ _)
      have HA7 := Lib.hid (HA6.out.later hbd)
      have HX7 := Lib.hid (HX6.out.later hbd)
      have HF7 := Lib.hid (HF6.out.trans (S' := ArSet a g v Ps) (FrS.of_below hbd) (fun i h => .inl h))
      have HS7 : Hid (SL a g px l o nn W2.drew) := by
        have h := look69 HA7.out.gens HA7.out.gok HRG.out
        rw [HZ.out, HGP.out] at h
        exact ⟨HA7.out.c.2.2.2, HX7.out.cell 0, HX7.out.cell 1, h⟩
      have HHD := Lib.hid (handle_x (l : Int) (o : Int) nn W2.drew (by omega) (by omega) (by omega) (by omega) HN0.out.1 HN0.out.2)
      clear hbd
      refine wp_region_noPanic ?_
      refine wp_region_held_drew (S := SL a g px l o nn) (by kernel_rfl) HS7.out (fun hHeld => ?_)
      refine wpAnyH_take (i := 0) (oi := { dst := some 45, op := Op.fieldAddr 74 (Operand.tmp 6) 0, type := 0, pos := "arena.go:45", after := #[], guard := none }) (v := ?_) rfl (by kernel_rfl) (by kernel_rfl) (by kernel_rfl) (fun _ _ _ h => h) (Or.inl ⟨by rfl, ?_⟩) (by assumption) ?_
      rotate_left
      · intro W hSw
        obtain ⟨k1, k2, k3, k4⟩ := hSw
        go_simp
        try with_reducible rfl
      simp only [Act.put, List.setIfInBounds_toArray, List.set_cons_zero, List.set_cons_succ]
      refine wpAnyH_take (i := 1) (oi := { dst := some 46, op := Op.load 41 (Operand.tmp 45), type := 41, pos := "arena.go:45", after := #[{ on := 0, ground := Ground.data }], guard := none }) (v := ?_) rfl (by kernel_rfl) (by kernel_rfl) (by kernel_rfl) (fun _ _ _ h => h) (Or.inl ⟨by rfl, ?_⟩) (by assumption) ?_
      rotate_left
      · intro W hSw
        obtain ⟨k1, k2, k3, k4⟩ := hSw
        go_simp
        try with_reducible rfl
      simp only [Act.put, List.setIfInBounds_toArray, List.set_cons_zero, List.set_cons_succ]
      refine wpAnyH_take (i := 2) (oi := { dst := some 47, op := Op.fieldAddr 74 (Operand.tmp 6) 1, type := 0, pos := "arena.go:45", after := #[], guard := none }) (v := ?_) rfl (by kernel_rfl) (by kernel_rfl) (by kernel_rfl) (fun _ _ _ h => h) (Or.inl ⟨by rfl, ?_⟩) (by assumption) ?_
      rotate_left
      · intro W hSw
        obtain ⟨k1, k2, k3, k4⟩ := hSw
        go_simp
        try with_reducible rfl
      simp only [Act.put, List.setIfInBounds_toArray, List.set_cons_zero, List.set_cons_succ]
      refine wpAnyH_take (i := 3) (oi := { dst := some 48, op := Op.load 41 (Operand.tmp 47), type := 41, pos := "arena.go:45", after := #[{ on := 2, ground := Ground.data }], guard := none }) (v := ?_) rfl (by kernel_rfl) (by kernel_rfl) (by kernel_rfl) (fun _ _ _ h => h) (Or.inl ⟨by rfl, ?_⟩) (by assumption) ?_
      rotate_left
      · intro W hSw
        obtain ⟨k1, k2, k3, k4⟩ := hSw
        go_simp
        try with_reducible rfl
      simp only [Act.put, List.setIfInBounds_toArray, List.set_cons_zero, List.set_cons_succ]
      refine wpAnyH_take (i := 4) (oi := { dst := some 49, op := Op.move (Operand.tmp 0), type := 22, pos := "arena.go:45", after := #[], guard := none }) (v := ?_) rfl (by kernel_rfl) (by kernel_rfl) (by kernel_rfl) (fun _ _ _ h => h) (Or.inl ⟨by rfl, ?_⟩) (by assumption) ?_
      rotate_left
      · intro W hSw
        obtain ⟨k1, k2, k3, k4⟩ := hSw
        go_simp
        try with_reducible rfl
      simp only [Act.put, List.setIfInBounds_toArray, List.set_cons_zero, List.set_cons_succ]
      refine wpAnyH_take (i := 5) (oi := { dst := some 50, op := Op.nilCheck (Operand.tmp 49), type := 0, pos := "arena.go:45", after := #[{ on := 4, ground := Ground.data }], guard := none }) (v := ?_) rfl (by kernel_rfl) (by kernel_rfl) (by kernel_rfl) (fun _ _ _ h => h) (Or.inl ⟨by rfl, ?_⟩) (by assumption) ?_
      rotate_left
      · intro W hSw
        obtain ⟨k1, k2, k3, k4⟩ := hSw
        go_simp
        try with_reducible rfl
      simp only [Act.put, List.setIfInBounds_toArray, List.set_cons_zero, List.set_cons_succ]
      refine wpAnyH_take (i := 6) (oi := { dst := some 51, op := Op.fieldAddr 71 (Operand.tmp 50) 3, type := 0, pos := "arena.go:45", after := #[{ on := 5, ground := Ground.data }], guard := none }) (v := ?_) rfl (by kernel_rfl) (by kernel_rfl) (by kernel_rfl) (fun _ _ _ h => h) (Or.inl ⟨by rfl, ?_⟩) (by assumption) ?_
      rotate_left
      · intro W hSw
        obtain ⟨k1, k2, k3, k4⟩ := hSw
        go_simp
        try with_reducible rfl
      simp only [Act.put, List.setIfInBounds_toArray, List.set_cons_zero, List.set_cons_succ]
      refine wpAnyH_take (i := 7) (oi := { dst := some 52, op := Op.load 69 (Operand.tmp 51), type := 69, pos := "arena.go:45", after := #[{ on := 6, ground := Ground.data }], guard := none }) (v := ?_) rfl (by kernel_rfl) (by kernel_rfl) (by kernel_rfl) (fun _ _ _ h => h) (Or.inl ⟨by rfl, ?_⟩) (by assumption) ?_
      rotate_left
      · intro W hSw
        obtain ⟨k1, k2, k3, k4⟩ := hSw
        go_simp
        try with_reducible rfl
      simp only [Act.put, List.setIfInBounds_toArray, List.set_cons_zero, List.set_cons_succ]
      refine wpAnyH_take (i := 8) (oi := { dst := some 53, op := Op.load 74 (Operand.tmp 6), type := 74, pos := "arena.go:45", after := #[], guard := none }) (v := ?_) rfl (by kernel_rfl) (by kernel_rfl) (by kernel_rfl) (fun _ _ _ h => h) (Or.inl ⟨by rfl, ?_⟩) (by assumption) ?_
      rotate_left
      · intro W hSw
        obtain ⟨k1, k2, k3, k4⟩ := hSw
        go_simp
        try with_reducible rfl
      simp only [Act.put, List.setIfInBounds_toArray, List.set_cons_zero, List.set_cons_succ]
      refine wpAnyH_take (i := 9) (oi := { dst := some 54, op := Op.lookup 69 (Operand.tmp 52) (Operand.tmp 53) false, type := 42, pos := "arena.go:45", after := #[{ on := 7, ground := Ground.data }, { on := 8, ground := Ground.data }], guard := none }) (v := ?_) rfl (by kernel_rfl) (by kernel_rfl) (by kernel_rfl) (fun _ _ _ h => h) (Or.inl ⟨by rfl, ?_⟩) (by assumption) ?_
      rotate_left
      · intro W hSw
        obtain ⟨k1, k2, k3, k4⟩ := hSw
        go_simp
        try with_reducible rfl
      simp only [Act.put, List.setIfInBounds_toArray, List.set_cons_zero, List.set_cons_succ]
      refine wpAnyH_ready (rs := [10]) (by kernel_rfl) (by simp) (AllReadyH.cons (o := { dst := some 55, op := Op.call { callee := Callee.value (Operand.func 22), args := #[Operand.tmp 46, Operand.tmp 48, Operand.tmp 54], argTypes := #[41, 41, 42] }, type := 24, pos := "arena.go:45", after := #[{ on := 1, ground := Ground.data }, { on := 3, ground := Ground.data }, { on := 9, ground := Ground.data }], guard := none }) rfl (fun K hK => ?_) AllReadyH.nil)
      refine step_callw (by rfl) 22 #[.int .u16 (l : Int), .int .u16 (o : Int), .int .u32 nn] (by go_simp) ?_
      refine (HHD.out).mono ?_
      rintro z w9 ⟨rfl, rfl⟩
      refine ⟨_, rfl, hK.out _ _ HS7.out (fun hHeld2 => ?_)⟩
      clear hK K hHeld HHD
      simp only [Act.put, List.setIfInBounds_toArray, List.set_cons_zero, List.set_cons_succ]
      refine wpAnyH_take (i := 11) (oi := { dst := some 2, op := Op.assign (Operand.tmp 55), type := 24, pos := "arena.go:45", after := #[{ on := 10, ground := Ground.data }, { on := 10, ground := Ground.chain }, { on := 0, ground := Ground.phase }, { on := 1, ground := Ground.phase }, { on := 2, ground := Ground.phase }, { on := 3, ground := Ground.phase }, { on := 4, ground := Ground.phase }, { on := 5, ground := Ground.phase }, { on := 6, ground := Ground.phase }, { on := 7, ground := Ground.phase }, { on := 8, ground := Ground.phase }, { on := 9, ground := Ground.phase }, { on := 10, ground := Ground.phase }], guard := none }) (v := ?_) rfl (by kernel_rfl) (by kernel_rfl) (by kernel_rfl) (fun _ _ _ h => h) (Or.inl ⟨by rfl, ?_⟩) (by assumption) ?_
      rotate_left
      · intro W hSw
        obtain ⟨k1, k2, k3, k4⟩ := hSw
        go_simp
        try with_reducible rfl
      simp only [Act.put, List.setIfInBounds_toArray, List.set_cons_zero, List.set_cons_succ]
      refine wpAnyH_take (i := 12) (oi := { dst := some 3, op := Op.assign (Operand.const (Value.int IntKind.i64 0)), type := 25, pos := "arena.go:45", after := #[{ on := 11, ground := Ground.chain }, { on := 0, ground := Ground.phase }, { on := 1, ground := Ground.phase }, { on := 2, ground := Ground.phase }, { on := 3, ground := Ground.phase }, { on := 4, ground := Ground.phase }, { on := 5, ground := Ground.phase }, { on := 6, ground := Ground.phase }, { on := 7, ground := Ground.phase }, { on := 8, ground := Ground.phase }, { on := 9, ground := Ground.phase }, { on := 10, ground := Ground.phase }, { on := 11, ground := Ground.phase }], guard := none }) (v := ?_) rfl (by kernel_rfl) (by kernel_rfl) (by kernel_rfl) (fun _ _ _ h => h) (Or.inl ⟨by rfl, ?_⟩) (by assumption) ?_
      rotate_left
      · intro W hSw
        obtain ⟨k1, k2, k3, k4⟩ := hSw
        go_simp
        try with_reducible rfl
      simp only [Act.put, List.setIfInBounds_toArray, List.set_cons_zero, List.set_cons_succ]
      refine wpAnyH_done (by kernel_rfl) (NoPanic.normal ?_) _
      go_wp2
      go_ret2
      have hpt := HPT.out
      unfold putA at hpt
      rw [HGD.out, HO.out, HGC.out, HNV.out] at hpt
      simp only [Prod.mk.injEq] at hpt
      obtain ⟨e1, e2, e3⟩ := hpt
      have hlen : ((Ps'.map (fun x => x.2.2)).set l (alS s P)).length = n := by rw [List.length_set, List.length_map]; exact HNN.out
      refine ⟨by rw [e2, e3]; rfl, _, ⟨g, _, Ps2, ?_, ?_, rfl, ?_, ?_⟩, fun k hk => HSET.out k (by rw [← HPS2.out] at hk; exact ArSet.page HPI.out hk), HF7.out⟩
      · rw [e1]; exact HA7.out
      · rw [e1, ← HPS2.out, List.map_set]
      · rw [e1]; simp only; rw [hlen]; have := HLT.out.1; omega
      · rw [e1]; simp only; rw [hlen]; exact HLT.out.2
end Go.Proofs.Ytbnbhhmgfogjeaa
