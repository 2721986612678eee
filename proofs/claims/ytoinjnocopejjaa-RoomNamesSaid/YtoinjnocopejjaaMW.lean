/- MW, MX in one. -/
import Derived.Test.YtoinjnocopejjaaMV
import Derived.StillTailTactics
/- A row put into the map, taken out. -/
namespace Go.Proofs.Ytoinjnocopejjaa
open Go.ChangeShapes Go.WideShapes Go.ChangeAt Go.RowKit Go.Maps
set_option linter.unusedVariables false
set_option linter.unusedSimpArgs false
section
variable {W W' : World} {B p : Nat} {s : MS} {x : MX} {k : ByteArray} {hd : Hd} {n : Nat}
/-- the map turned, all else stays -/
theorem MdAt.turn (h : MdAt W B p s x) (hg : W.grownBy W' (some x.b)) {rows' : List (ByteArray × Rw)} {hs' : List (ByteArray × Hd)} (hm : W'.ownsMap Try.prog 9 RH x.b n (dm (mp rowV hs'))) (hr : rows' = mp hdR hs') (hv : ∀ q ∈ hs', HdAt W q.2) (ok : OkM { s with rows := rows' }) :
    MdAt W' B p { s with rows := rows' } { x with hs := hs' } := by
  obtain ⟨es, cl, hb, _⟩ := h.map
  have hne : ∀ (g : Nat) (cur : Array Value) (t : TypeId), W.heap[g]? = some (.cells cur t (0, 0)) → W'.heap[g]? = W.heap[g]? := fun g cur t hc => hg.block g (Array.getElem?_eq_some_iff.1 hc).1 (fun e => by
    cases e; rw [hb] at hc; cases hc)
  refine ⟨h.hp, (hne p _ _ h.blk).trans h.blk, h.tx.keepS (fun i hi => by obtain ⟨cur, hc⟩ := h.tx.tag i hi; exact hne i _ _ hc), h.htb, (hne x.tb _ _ h.tb).trans h.tb, h.kl, fun i v l h1 h2 => ow_keep (h.num i v l h1 h2) (fun j hj => by obtain ⟨cur, hc⟩ := (h.num i v l h1 h2).tag j hj; exact hne j _ _ hc), h.ap, h.hb, ?_, hr, fun q hq => (hv q hq).keep (fun g cur hc => hne g _ _ hc), ok⟩
  have := own_tight hm
  rw [mp_len] at this
  show W'.ownsMap Try.prog 9 RH x.b rows'.length (dm (mp rowV hs'))
  rw [hr, mp_len]; exact this
theorem MdAt.put (h : MdAt W B p s x) (hg : W.grownBy W' (some x.b)) (hm : W'.ownsMap Try.prog 9 RH x.b n ((DM x).put (.string (bl k)) (.held (rowV hd)))) (hv : HdAt W hd) (ok : OkM { s with rows := putK s.rows k (hdR hd) }) :
    MdAt W' B p { s with rows := putK s.rows k (hdR hd) } { x with hs := putK x.hs k hd } := by
  unfold DM at hm
  rw [put_dm, ← mp_put] at hm
  refine h.turn hg hm (by rw [h.rows, mp_put]) (fun q hq => ?_) ok
  rcases mem_put.1 hq with rfl | h1
  · exact hv
  · exact h.ver q h1.1
theorem MdAt.del (h : MdAt W B p s x) (hg : W.grownBy W' (some x.b)) (hm : W'.ownsMap Try.prog 9 RH x.b n ((DM x).del (.string (bl k)))) (ok : OkM { s with rows := delK s.rows k }) :
    MdAt W' B p { s with rows := delK s.rows k } { x with hs := delK x.hs k } := by
  unfold DM at hm
  rw [del_dm, ← mp_del] at hm
  exact h.turn hg hm (by rw [h.rows, mp_del]) (fun q hq => h.ver q (mem_del.1 hq).1) ok
theorem MxS.hs_eq (p : Nat) (x : MX) (hs' : List (ByteArray × Hd)) : MxS p { x with hs := hs' } = MxS p x := rfl
theorem Mv.of_grown (h : MdAt W B p s x) (hg : W.grownBy W' (some x.b)) {s' : MS} {hs' : List (ByteArray × Hd)} (h' : MdAt W' B p s' { x with hs := hs' }) : Mv s' B p (MxS p x) W W' :=
  ⟨_, ⟨_, h', rfl⟩, FrS.of_grown hg (fun k e => by cases e; exact .inr (.inr (.inr (.inr rfl)))), fun k e => .inl e⟩
/-- behind a Below -/
theorem Mv.after {w : World} {S : Nat → Prop} {s' : MS} (h : Mv s' B p S W W') (hb : Below w.heap.size w W) : Mv s' B p S w W' := by
  obtain ⟨S', h1, h2, h3⟩ := h
  refine ⟨S', h1, (FrS.of_below hb (S := S)).trans h2 (fun i hi => .inl hi), fun k hk => ?_⟩
  rcases h3 k hk with e | e
  · exact .inl e
  · exact .inr (Nat.le_trans hb.size e)
theorem Mv.later {w : World} {S : Nat → Prop} {s' : MS} (h : Mv s' B p S w W) (hb : Below W.heap.size W W') : Mv s' B p S w W' := by
  obtain ⟨S', h1, h2, h3⟩ := h
  exact ⟨S', h1.later hb, h2.trans (FrS.of_below hb (S := fun _ => False)) (fun i hi => hi.elim), h3⟩
theorem Mv.trans {w : World} {S : Nat → Prop} {s1 s2 : MS} (h : Mv s1 B p S w W) (h2 : ∀ S1, MR W B p s1 S1 → Mv s2 B p S1 W W') : Mv s2 B p S w W' := by
  obtain ⟨S1, a1, a2, a3⟩ := h
  obtain ⟨S2, b1, b2, b3⟩ := h2 S1 a1
  refine ⟨S2, b1, a2.trans b2 a3, fun k hk => ?_⟩
  rcases b3 k hk with e | e
  · exact a3 k e
  · exact .inr (Nat.le_trans a2.size e)
theorem MdAt.len_run (h : MdAt W B p s x) (q : Nat) : (Builtin.len_ #[108] 3 #[.map (some x.b)]).run Try.prog (W.drewN q) = .ok (.int .i64 (s.rows.length : Nat)) (W.drewN q) := by
  have hm : (W.drewN q).ownsMap Try.prog 9 RH x.b s.rows.length (DM x) := h.map
  have := hm.len Try.underlying108 3
  rw [this]
  unfold DM
  rw [size_dm, mp_len, h.len]
end
end Go.Proofs.Ytoinjnocopejjaa

/- write. -/
namespace Go.Proofs.Ytoinjnocopejjaa
open Go.ChangeShapes Go.WideShapes Go.ChangeAt Go.RowKit Go.Maps
set_option linter.unusedVariables false
set_option linter.unusedSimpArgs false
def ErMv (r : Int) (s' : MS) (B p : Nat) (S : Nat → Prop) (w : World) (e : Ending) (w' : World) : Prop := e = .returned (.int .i64 r) ∧ Mv s' B p S w w'
def wrM (s : MS) (k : ByteArray) (v : Ver) : Int × MS := if fullM s k = true then (34, s) else (0, putM s k v)
set_option maxRecDepth 100000 in
set_option maxHeartbeats 16000000 in
theorem write_any (B p : Nat) (s : MS) (S : Nat → Prop) (key : ByteArray) (vw vts : Int) (vtm : Bool) (vv : ByteArray) (w : World) (h : MR w B p s S) (hk : key.size ≤ maxLen) (ok : fullM s key = false → OkM (putM s key ⟨vw, vts, vtm, vv⟩)) : Calls Try.prog 80 #[.pointer (some ⟨p, 0, none⟩), .string key, .agg #[.int .i64 vw, .int .i64 vts, .bool vtm, .string vv]] w (ErMv (wrM s key ⟨vw, vts, vtm, vv⟩).1 (wrM s key ⟨vw, vts, vtm, vv⟩).2 B p S w) := by
  obtain ⟨x, h, rfl⟩ := h
  have hb1 : Below w.heap.size w (w.alloc (.cells #[.int .i64 vw, .int .i64 vts, .bool vtm, .string vv] 26)) := (Below.refl _ _).alloc (Nat.le_refl _) _
  have h1 := h.later hb1
  have k12 := h1.c0 12
  have hlk := h1.look_ok key hk 0
  have hg := h1.getR key
  have hat := h1.hdAt key
  obtain ⟨hd, hq0⟩ : ∃ hd, hdG x key = hd := ⟨_, rfl⟩
  rw [hq0] at hlk hg hat
  obtain ⟨A, n, c, L, ⟨iw, its, itm, iv⟩⟩ := hd
  unfold rowV at hlk
  simp only at hlk
  rw [World.drewN_zero] at hlk
  simp only [mdC, List.getElem?_cons_succ, List.getElem?_cons_zero] at k12
  have HG := Lib.hid hg
  have hL : L.length = n := hat.1.len
  have HFU : Hid (fullM s key = (decide (iw = 0) && ((!hasK s.rows key && decide (s.cf.ke ≤ s.rows.length)) || decide (s.cf.de ≤ n)))) := Lib.hid (by unfold fullM; rw [hg]; unfold hdR; simp only; rw [hL])
  have hb2 : Below w.heap.size w ((w.alloc (.cells #[.int .i64 vw, .int .i64 vts, .bool vtm, .string vv] 26)).alloc (.cells #[.slice A n c, .int .i64 iw, .int .i64 its, .bool itm, .string iv] 114)) := hb1.alloc (by simp) _
  have HB := Lib.hid hb2
  have K7 : Hid (Blk ((w.alloc (.cells #[.int .i64 vw, .int .i64 vts, .bool vtm, .string vv] 26)).alloc (.cells #[.slice A n c, .int .i64 iw, .int .i64 its, .bool itm, .string iv] 114)) (w.heap.size + 1) #[.slice A n c, .int .i64 iw, .int .i64 its, .bool itm, .string iv] 114) := Lib.hid (Blk.new2 _ _ 114 (by simp))
  have h2 := h.later hb2
  have HM := Lib.hid h2
  have HM0 := Lib.hid h
  have q2 := h2.c0 2
  have q3 := h2.c0 3
  have q12 := h2.c0 12
  simp only [mdC, List.getElem?_cons_succ, List.getElem?_cons_zero] at q2 q3 q12
  have hln := h2.len_run
  obtain ⟨m, hm⟩ : ∃ m, s.rows.length = m := ⟨_, rfl⟩
  rw [hm] at hln
  obtain ⟨hs_, hhs⟩ : ∃ b, hasK s.rows key = b := ⟨_, rfl⟩
  rw [hhs] at hlk HFU
  rw [hm] at HFU
  have HAT0 : Hid (HdAt w ⟨A, n, c, L, ⟨vw, vts, vtm, vv⟩⟩) := Lib.hid (by have := h.hdAt key; rw [hq0] at this; exact this)
  have HOK := Lib.hid ok
  have HN8 : Hid (n ≤ 8) := Lib.hid hat.2.2.2
  have HKS := Lib.hid hk
  clear hb1 h1 hg hat hq0 hL hb2 h2 hm hhs ok hk h
  by_cases hi : iw = 0
  · cases hs_ with
    | false =>
      by_cases ha : s.cf.ke ≤ (m : Int)
      · have dI : decide (iw = 0) = true := decide_eq_true hi
        have e1 : (iw == 0) = true := by rw [hi]; rfl
        have dK : decide (s.cf.ke ≤ (m : Int)) = true := decide_eq_true (by omega)
        have dD : decide (s.cf.de ≤ (n : Int)) = decide (s.cf.de ≤ (n : Int)) := rfl
        clear dD
        have dD := Bool.true_or
        have HR : Hid (wrM s key ⟨vw, vts, vtm, vv⟩ = (34, s)) := Lib.hid (by unfold wrM; rw [HFU.out]; simp only [dI, dK, dD, Bool.true_and, Bool.not_false, Bool.not_true, Bool.false_and, Bool.or_true, Bool.true_or, Bool.false_or, if_true])
        rw [HR.out]
        have HMV : Hid (∀ W, Below ((w.alloc (.cells #[.int .i64 vw, .int .i64 vts, .bool vtm, .string vv] 26)).alloc (.cells #[.slice A n c, .int .i64 iw, .int .i64 its, .bool itm, .string iv] 114)).heap.size ((w.alloc (.cells #[.int .i64 vw, .int .i64 vts, .bool vtm, .string vv] 26)).alloc (.cells #[.slice A n c, .int .i64 iw, .int .i64 its, .bool itm, .string iv] 114)) W → Mv s B p (MxS p x) w W) := Lib.hid (fun W hW => (Mv.same ⟨x, HM.out, rfl⟩ hW).after HB.out)
        clear hi ha dD
        go_enter Try.func80, Try.ntmps80
        go_upto_region 2 with (fail)
        clear hlk k12
        generalize ((w.alloc (.cells #[.int .i64 vw, .int .i64 vts, .bool vtm, .string vv] 26)).alloc (.cells #[.slice A n c, .int .i64 iw, .int .i64 its, .bool itm, .string iv] 114)) = w2 at *
        have z0 := K7.out.cell 0
        have z1 := K7.out.cell 1
        have z2 := K7.out.cell 2
        have z3 := K7.out.cell 3
        have z4 := K7.out.cell 4
        simp only [List.getElem?_toArray, List.getElem?_cons_zero, List.getElem?_cons_succ] at z0 z1 z2 z3 z4
        go_wp2
        go_quiet (fail)
        go_wp2
        go_ret
        exact ⟨rfl, HMV.out _ (below_drewN (Below.refl _ _) _)⟩
      · by_cases hd_ : s.cf.de ≤ (n : Int)
        · have dI : decide (iw = 0) = true := decide_eq_true hi
          have e1 : (iw == 0) = true := by rw [hi]; rfl
          have dK : decide (s.cf.ke ≤ (m : Int)) = false := decide_eq_false (by omega)
          have dD : decide (s.cf.de ≤ (n : Int)) = true := decide_eq_true (by omega)
          have HR : Hid (wrM s key ⟨vw, vts, vtm, vv⟩ = (34, s)) := Lib.hid (by unfold wrM; rw [HFU.out]; simp only [dI, dK, dD, Bool.true_and, Bool.not_false, Bool.not_true, Bool.false_and, Bool.or_true, Bool.true_or, Bool.false_or, if_true])
          rw [HR.out]
          have HMV : Hid (∀ W, Below ((w.alloc (.cells #[.int .i64 vw, .int .i64 vts, .bool vtm, .string vv] 26)).alloc (.cells #[.slice A n c, .int .i64 iw, .int .i64 its, .bool itm, .string iv] 114)).heap.size ((w.alloc (.cells #[.int .i64 vw, .int .i64 vts, .bool vtm, .string vv] 26)).alloc (.cells #[.slice A n c, .int .i64 iw, .int .i64 its, .bool itm, .string iv] 114)) W → Mv s B p (MxS p x) w W) := Lib.hid (fun W hW => (Mv.same ⟨x, HM.out, rfl⟩ hW).after HB.out)
          clear hi ha hd_
          go_enter Try.func80, Try.ntmps80
          go_upto_region 2 with (fail)
          clear hlk k12
          generalize ((w.alloc (.cells #[.int .i64 vw, .int .i64 vts, .bool vtm, .string vv] 26)).alloc (.cells #[.slice A n c, .int .i64 iw, .int .i64 its, .bool itm, .string iv] 114)) = w2 at *
          have z0 := K7.out.cell 0
          have z1 := K7.out.cell 1
          have z2 := K7.out.cell 2
          have z3 := K7.out.cell 3
          have z4 := K7.out.cell 4
          simp only [List.getElem?_toArray, List.getElem?_cons_zero, List.getElem?_cons_succ] at z0 z1 z2 z3 z4
          go_wp2
          go_quiet (fail)
          go_wp2
          go_ret
          exact ⟨rfl, HMV.out _ (below_drewN (Below.refl _ _) _)⟩
        · have dI : decide (iw = 0) = true := decide_eq_true hi
          have e1 : (iw == 0) = true := by rw [hi]; rfl
          have dK : decide (s.cf.ke ≤ (m : Int)) = false := decide_eq_false (by omega)
          have dD : decide (s.cf.de ≤ (n : Int)) = false := decide_eq_false (by omega)
          have HF0 : Hid (fullM s key = false) := Lib.hid (by rw [HFU.out]; simp only [dI, dK, dD, Bool.true_and, Bool.not_false, Bool.not_true, Bool.false_and, Bool.or_false, Bool.false_or])
          have HR : Hid (wrM s key ⟨vw, vts, vtm, vv⟩ = (0, putM s key ⟨vw, vts, vtm, vv⟩)) := Lib.hid (by unfold wrM; rw [if_neg (by rw [HF0.out]; decide)])
          rw [HR.out]
          clear hi ha hd_
          go_enter Try.func80, Try.ntmps80
          have K5 : Hid (Blk ((w.alloc (.cells #[.int .i64 vw, .int .i64 vts, .bool vtm, .string vv] 26)).alloc (.cells #[.slice A n c, .int .i64 iw, .int .i64 its, .bool itm, .string iv] 114)) w.heap.size #[.int .i64 vw, .int .i64 vts, .bool vtm, .string vv] 26) := Lib.hid ((Blk.new w _ 26).alloc _)
          go_upto_region 2 with (fail)
          clear hlk k12
          generalize ((w.alloc (.cells #[.int .i64 vw, .int .i64 vts, .bool vtm, .string vv] 26)).alloc (.cells #[.slice A n c, .int .i64 iw, .int .i64 its, .bool itm, .string iv] 114)) = w2 at *
          have z0 := K7.out.cell 0
          have z1 := K7.out.cell 1
          have z2 := K7.out.cell 2
          have z3 := K7.out.cell 3
          have z4 := K7.out.cell 4
          simp only [List.getElem?_toArray, List.getElem?_cons_zero, List.getElem?_cons_succ] at z0 z1 z2 z3 z4
          go_wp2
          go_quiet (fail)
          rename_i nq
          have hb3 : Below w2.heap.size w2 (w2.drewN nq) := below_drewN (Below.refl _ _) nq
          replace HB := Lib.hid (stepB HB.out hb3)
          replace K7 := Lib.hid (K7.out.later hb3)
          replace K5 := Lib.hid (K5.out.later hb3)
          replace HM := Lib.hid (HM.out.later hb3)
          clear hb3 z0 z1 z2 z3 z4 q2 q3 q12 hln
          generalize w2.drewN nq = w3 at *
          have z0 := K7.out.cell 0
          have z1 := K7.out.cell 1
          have z2 := K7.out.cell 2
          have z3 := K7.out.cell 3
          have z4 := K7.out.cell 4
          simp only [List.getElem?_toArray, List.getElem?_cons_zero, List.getElem?_cons_succ] at z0 z1 z2 z3 z4
          have f0 := K7.out.frozen 0
          have f1 := K7.out.frozen 1
          have f2 := K7.out.frozen 2
          have f3 := K7.out.frozen 3
          have f4 := K7.out.frozen 4
          have y0 := K5.out.cell 0
          have y1 := K5.out.cell 1
          have y2 := K5.out.cell 2
          have y3 := K5.out.cell 3
          simp only [List.getElem?_toArray, List.getElem?_cons_zero, List.getElem?_cons_succ] at y0 y1 y2 y3
          go_upto_region 5 with (fail)
          have HB4 := Lib.hid ((((HB.out.setCell (p := ⟨w.heap.size + 1, 1, none⟩) (Nat.le_succ _) (.int .i64 vw)).setCell (p := ⟨w.heap.size + 1, 2, none⟩) (Nat.le_succ _) (.int .i64 vts)).setCell (p := ⟨w.heap.size + 1, 3, none⟩) (Nat.le_succ _) (.bool vtm)).setCell (p := ⟨w.heap.size + 1, 4, none⟩) (Nat.le_succ _) (.string vv))
          have K74 : Hid (Blk ((((w3.setCell ⟨w.heap.size + 1, 1, none⟩ (.int .i64 vw)).setCell ⟨w.heap.size + 1, 2, none⟩ (.int .i64 vts)).setCell ⟨w.heap.size + 1, 3, none⟩ (.bool vtm)).setCell ⟨w.heap.size + 1, 4, none⟩ (.string vv)) (w.heap.size + 1) #[.slice A n c, .int .i64 vw, .int .i64 vts, .bool vtm, .string vv] 114) := Lib.hid ((((K7.out.set (j := 1) _).set (j := 2) _).set (j := 3) _).set (j := 4) _)
          clear z0 z1 z2 z3 z4 f0 f1 f2 f3 f4 y0 y1 y2 y3
          generalize ((((w3.setCell ⟨w.heap.size + 1, 1, none⟩ (.int .i64 vw)).setCell ⟨w.heap.size + 1, 2, none⟩ (.int .i64 vts)).setCell ⟨w.heap.size + 1, 3, none⟩ (.bool vtm)).setCell ⟨w.heap.size + 1, 4, none⟩ (.string vv)) = w4 at *
          have H4 := HM0.out.later HB4.out
          have q12 := H4.c0 12
          simp only [mdC, List.getElem?_cons_succ, List.getElem?_cons_zero] at q12
          clear H4
          have z0 := K74.out.cell 0
          have z1 := K74.out.cell 1
          have z2 := K74.out.cell 2
          have z3 := K74.out.cell 3
          have z4 := K74.out.cell 4
          simp only [List.getElem?_toArray, List.getElem?_cons_zero, List.getElem?_cons_succ] at z0 z1 z2 z3 z4
          go_still_tail 6, (by kernel_rfl)
          change wpList _ _ _ _ _ (World.drew w4)
          have HB5 := Lib.hid (Below.drew HB4.out)
          have HM5 := Lib.hid (HM0.out.later HB5.out)
          have HMP := Lib.hid HM5.out.map
          clear q12 z0 z1 z2 z3 z4 HB4 K74 HM K7 K5 HB
          generalize World.drew w4 = w5 at *
          go_wp2_with (first
            | (at_mapUpdate; refine wpList_mapUpdate_own _ rfl _ _ _ 108 rfl 9 114 law9 Try.underlying108 RH x.b s.rows.length (DM x) rfl HMP.out (by have := HM5.out.ok.keys; have := may_lo HM5.out.ok.may; unfold maxLen; omega) _ _ (.string (bl key)) rfl rfl (keyS key HKS.out) (.held (rowV ⟨A, n, c, L, ⟨vw, vts, vtm, vv⟩⟩)) [] rfl ?_; intro w6 hmm hgg)
            | go_in)
          have HOK2 := Lib.hid (HOK.out HF0.out)
          have HE : Hid (putM s key ⟨vw, vts, vtm, vv⟩ = { s with rows := putK s.rows key (hdR ⟨A, n, c, L, ⟨vw, vts, vtm, vv⟩⟩) }) := Lib.hid (by unfold putM; rw [HG.out]; rfl)
          have HMV := Lib.hid (Mv.after (Mv.of_grown HM5.out hgg (HM5.out.put hgg hmm (HdAt.later HAT0.out HB5.out) (by have := HOK2.out; rw [HE.out] at this; exact this))) HB5.out)
          rw [← HE.out] at HMV
          clear hmm hgg HMP HM5 HB5
          go_wp2
          go_ret
          exact ⟨rfl, HMV.out⟩
    | true =>
      have dK := Bool.false_and
      by_cases hd_ : s.cf.de ≤ (n : Int)
      · have dI : decide (iw = 0) = true := decide_eq_true hi
        have e1 : (iw == 0) = true := by rw [hi]; rfl
        have dD : decide (s.cf.de ≤ (n : Int)) = true := decide_eq_true (by omega)
        have HR : Hid (wrM s key ⟨vw, vts, vtm, vv⟩ = (34, s)) := Lib.hid (by unfold wrM; rw [HFU.out]; simp only [dI, dK, dD, Bool.true_and, Bool.not_false, Bool.not_true, Bool.false_and, Bool.or_true, Bool.true_or, Bool.false_or, if_true])
        rw [HR.out]
        have HMV : Hid (∀ W, Below ((w.alloc (.cells #[.int .i64 vw, .int .i64 vts, .bool vtm, .string vv] 26)).alloc (.cells #[.slice A n c, .int .i64 iw, .int .i64 its, .bool itm, .string iv] 114)).heap.size ((w.alloc (.cells #[.int .i64 vw, .int .i64 vts, .bool vtm, .string vv] 26)).alloc (.cells #[.slice A n c, .int .i64 iw, .int .i64 its, .bool itm, .string iv] 114)) W → Mv s B p (MxS p x) w W) := Lib.hid (fun W hW => (Mv.same ⟨x, HM.out, rfl⟩ hW).after HB.out)
        clear hi hd_ dK
        go_enter Try.func80, Try.ntmps80
        go_upto_region 2 with (fail)
        clear hlk k12
        generalize ((w.alloc (.cells #[.int .i64 vw, .int .i64 vts, .bool vtm, .string vv] 26)).alloc (.cells #[.slice A n c, .int .i64 iw, .int .i64 its, .bool itm, .string iv] 114)) = w2 at *
        have z0 := K7.out.cell 0
        have z1 := K7.out.cell 1
        have z2 := K7.out.cell 2
        have z3 := K7.out.cell 3
        have z4 := K7.out.cell 4
        simp only [List.getElem?_toArray, List.getElem?_cons_zero, List.getElem?_cons_succ] at z0 z1 z2 z3 z4
        go_wp2
        go_quiet (fail)
        go_wp2
        go_ret
        exact ⟨rfl, HMV.out _ (below_drewN (Below.refl _ _) _)⟩
      · have dI : decide (iw = 0) = true := decide_eq_true hi
        have e1 : (iw == 0) = true := by rw [hi]; rfl
        have dD : decide (s.cf.de ≤ (n : Int)) = false := decide_eq_false (by omega)
        have HF0 : Hid (fullM s key = false) := Lib.hid (by rw [HFU.out]; simp only [dI, dK, dD, Bool.true_and, Bool.not_false, Bool.not_true, Bool.false_and, Bool.or_false, Bool.false_or])
        have HR : Hid (wrM s key ⟨vw, vts, vtm, vv⟩ = (0, putM s key ⟨vw, vts, vtm, vv⟩)) := Lib.hid (by unfold wrM; rw [if_neg (by rw [HF0.out]; decide)])
        rw [HR.out]
        clear hi hd_ dK
        go_enter Try.func80, Try.ntmps80
        have K5 : Hid (Blk ((w.alloc (.cells #[.int .i64 vw, .int .i64 vts, .bool vtm, .string vv] 26)).alloc (.cells #[.slice A n c, .int .i64 iw, .int .i64 its, .bool itm, .string iv] 114)) w.heap.size #[.int .i64 vw, .int .i64 vts, .bool vtm, .string vv] 26) := Lib.hid ((Blk.new w _ 26).alloc _)
        go_upto_region 2 with (fail)
        clear hlk k12
        generalize ((w.alloc (.cells #[.int .i64 vw, .int .i64 vts, .bool vtm, .string vv] 26)).alloc (.cells #[.slice A n c, .int .i64 iw, .int .i64 its, .bool itm, .string iv] 114)) = w2 at *
        have z0 := K7.out.cell 0
        have z1 := K7.out.cell 1
        have z2 := K7.out.cell 2
        have z3 := K7.out.cell 3
        have z4 := K7.out.cell 4
        simp only [List.getElem?_toArray, List.getElem?_cons_zero, List.getElem?_cons_succ] at z0 z1 z2 z3 z4
        go_wp2
        go_quiet (fail)
        rename_i nq
        have hb3 : Below w2.heap.size w2 (w2.drewN nq) := below_drewN (Below.refl _ _) nq
        replace HB := Lib.hid (stepB HB.out hb3)
        replace K7 := Lib.hid (K7.out.later hb3)
        replace K5 := Lib.hid (K5.out.later hb3)
        replace HM := Lib.hid (HM.out.later hb3)
        clear hb3 z0 z1 z2 z3 z4 q2 q3 q12 hln
        generalize w2.drewN nq = w3 at *
        have z0 := K7.out.cell 0
        have z1 := K7.out.cell 1
        have z2 := K7.out.cell 2
        have z3 := K7.out.cell 3
        have z4 := K7.out.cell 4
        simp only [List.getElem?_toArray, List.getElem?_cons_zero, List.getElem?_cons_succ] at z0 z1 z2 z3 z4
        have f0 := K7.out.frozen 0
        have f1 := K7.out.frozen 1
        have f2 := K7.out.frozen 2
        have f3 := K7.out.frozen 3
        have f4 := K7.out.frozen 4
        have y0 := K5.out.cell 0
        have y1 := K5.out.cell 1
        have y2 := K5.out.cell 2
        have y3 := K5.out.cell 3
        simp only [List.getElem?_toArray, List.getElem?_cons_zero, List.getElem?_cons_succ] at y0 y1 y2 y3
        go_upto_region 5 with (fail)
        have HB4 := Lib.hid ((((HB.out.setCell (p := ⟨w.heap.size + 1, 1, none⟩) (Nat.le_succ _) (.int .i64 vw)).setCell (p := ⟨w.heap.size + 1, 2, none⟩) (Nat.le_succ _) (.int .i64 vts)).setCell (p := ⟨w.heap.size + 1, 3, none⟩) (Nat.le_succ _) (.bool vtm)).setCell (p := ⟨w.heap.size + 1, 4, none⟩) (Nat.le_succ _) (.string vv))
        have K74 : Hid (Blk ((((w3.setCell ⟨w.heap.size + 1, 1, none⟩ (.int .i64 vw)).setCell ⟨w.heap.size + 1, 2, none⟩ (.int .i64 vts)).setCell ⟨w.heap.size + 1, 3, none⟩ (.bool vtm)).setCell ⟨w.heap.size + 1, 4, none⟩ (.string vv)) (w.heap.size + 1) #[.slice A n c, .int .i64 vw, .int .i64 vts, .bool vtm, .string vv] 114) := Lib.hid ((((K7.out.set (j := 1) _).set (j := 2) _).set (j := 3) _).set (j := 4) _)
        clear z0 z1 z2 z3 z4 f0 f1 f2 f3 f4 y0 y1 y2 y3
        generalize ((((w3.setCell ⟨w.heap.size + 1, 1, none⟩ (.int .i64 vw)).setCell ⟨w.heap.size + 1, 2, none⟩ (.int .i64 vts)).setCell ⟨w.heap.size + 1, 3, none⟩ (.bool vtm)).setCell ⟨w.heap.size + 1, 4, none⟩ (.string vv)) = w4 at *
        have H4 := HM0.out.later HB4.out
        have q12 := H4.c0 12
        simp only [mdC, List.getElem?_cons_succ, List.getElem?_cons_zero] at q12
        clear H4
        have z0 := K74.out.cell 0
        have z1 := K74.out.cell 1
        have z2 := K74.out.cell 2
        have z3 := K74.out.cell 3
        have z4 := K74.out.cell 4
        simp only [List.getElem?_toArray, List.getElem?_cons_zero, List.getElem?_cons_succ] at z0 z1 z2 z3 z4
        go_still_tail 6, (by kernel_rfl)
        change wpList _ _ _ _ _ (World.drew w4)
        have HB5 := Lib.hid (Below.drew HB4.out)
        have HM5 := Lib.hid (HM0.out.later HB5.out)
        have HMP := Lib.hid HM5.out.map
        clear q12 z0 z1 z2 z3 z4 HB4 K74 HM K7 K5 HB
        generalize World.drew w4 = w5 at *
        go_wp2_with (first
          | (at_mapUpdate; refine wpList_mapUpdate_own _ rfl _ _ _ 108 rfl 9 114 law9 Try.underlying108 RH x.b s.rows.length (DM x) rfl HMP.out (by have := HM5.out.ok.keys; have := may_lo HM5.out.ok.may; unfold maxLen; omega) _ _ (.string (bl key)) rfl rfl (keyS key HKS.out) (.held (rowV ⟨A, n, c, L, ⟨vw, vts, vtm, vv⟩⟩)) [] rfl ?_; intro w6 hmm hgg)
          | go_in)
        have HOK2 := Lib.hid (HOK.out HF0.out)
        have HE : Hid (putM s key ⟨vw, vts, vtm, vv⟩ = { s with rows := putK s.rows key (hdR ⟨A, n, c, L, ⟨vw, vts, vtm, vv⟩⟩) }) := Lib.hid (by unfold putM; rw [HG.out]; rfl)
        have HMV := Lib.hid (Mv.after (Mv.of_grown HM5.out hgg (HM5.out.put hgg hmm (HdAt.later HAT0.out HB5.out) (by have := HOK2.out; rw [HE.out] at this; exact this))) HB5.out)
        rw [← HE.out] at HMV
        clear hmm hgg HMP HM5 HB5
        go_wp2
        go_ret
        exact ⟨rfl, HMV.out⟩
  · have dK := Bool.false_and
    have dD := Bool.false_and
    have dI : decide (iw = 0) = false := decide_eq_false hi
    have e1 : (iw == 0) = false := by rw [beq_eq_false_iff_ne]; exact hi
    have HF0 : Hid (fullM s key = false) := Lib.hid (by rw [HFU.out]; simp only [dI, dK, dD, Bool.true_and, Bool.not_false, Bool.not_true, Bool.false_and, Bool.or_false, Bool.false_or])
    have HR : Hid (wrM s key ⟨vw, vts, vtm, vv⟩ = (0, putM s key ⟨vw, vts, vtm, vv⟩)) := Lib.hid (by unfold wrM; rw [if_neg (by rw [HF0.out]; decide)])
    rw [HR.out]
    clear hi dK dD
    go_enter Try.func80, Try.ntmps80
    have K5 : Hid (Blk ((w.alloc (.cells #[.int .i64 vw, .int .i64 vts, .bool vtm, .string vv] 26)).alloc (.cells #[.slice A n c, .int .i64 iw, .int .i64 its, .bool itm, .string iv] 114)) w.heap.size #[.int .i64 vw, .int .i64 vts, .bool vtm, .string vv] 26) := Lib.hid ((Blk.new w _ 26).alloc _)
    go_upto_region 2 with (fail)
    clear hlk k12
    generalize ((w.alloc (.cells #[.int .i64 vw, .int .i64 vts, .bool vtm, .string vv] 26)).alloc (.cells #[.slice A n c, .int .i64 iw, .int .i64 its, .bool itm, .string iv] 114)) = w2 at *
    have z0 := K7.out.cell 0
    have z1 := K7.out.cell 1
    have z2 := K7.out.cell 2
    have z3 := K7.out.cell 3
    have z4 := K7.out.cell 4
    simp only [List.getElem?_toArray, List.getElem?_cons_zero, List.getElem?_cons_succ] at z0 z1 z2 z3 z4
    go_wp2
    go_quiet (fail)
    rename_i nq
    have hb3 : Below w2.heap.size w2 (w2.drewN nq) := below_drewN (Below.refl _ _) nq
    replace HB := Lib.hid (stepB HB.out hb3)
    replace K7 := Lib.hid (K7.out.later hb3)
    replace K5 := Lib.hid (K5.out.later hb3)
    replace HM := Lib.hid (HM.out.later hb3)
    clear hb3 z0 z1 z2 z3 z4 q2 q3 q12 hln
    generalize w2.drewN nq = w3 at *
    have z0 := K7.out.cell 0
    have z1 := K7.out.cell 1
    have z2 := K7.out.cell 2
    have z3 := K7.out.cell 3
    have z4 := K7.out.cell 4
    simp only [List.getElem?_toArray, List.getElem?_cons_zero, List.getElem?_cons_succ] at z0 z1 z2 z3 z4
    have f0 := K7.out.frozen 0
    have f1 := K7.out.frozen 1
    have f2 := K7.out.frozen 2
    have f3 := K7.out.frozen 3
    have f4 := K7.out.frozen 4
    have y0 := K5.out.cell 0
    have y1 := K5.out.cell 1
    have y2 := K5.out.cell 2
    have y3 := K5.out.cell 3
    simp only [List.getElem?_toArray, List.getElem?_cons_zero, List.getElem?_cons_succ] at y0 y1 y2 y3
    go_upto_region 5 with (fail)
    have HB4 := Lib.hid ((((HB.out.setCell (p := ⟨w.heap.size + 1, 1, none⟩) (Nat.le_succ _) (.int .i64 vw)).setCell (p := ⟨w.heap.size + 1, 2, none⟩) (Nat.le_succ _) (.int .i64 vts)).setCell (p := ⟨w.heap.size + 1, 3, none⟩) (Nat.le_succ _) (.bool vtm)).setCell (p := ⟨w.heap.size + 1, 4, none⟩) (Nat.le_succ _) (.string vv))
    have K74 : Hid (Blk ((((w3.setCell ⟨w.heap.size + 1, 1, none⟩ (.int .i64 vw)).setCell ⟨w.heap.size + 1, 2, none⟩ (.int .i64 vts)).setCell ⟨w.heap.size + 1, 3, none⟩ (.bool vtm)).setCell ⟨w.heap.size + 1, 4, none⟩ (.string vv)) (w.heap.size + 1) #[.slice A n c, .int .i64 vw, .int .i64 vts, .bool vtm, .string vv] 114) := Lib.hid ((((K7.out.set (j := 1) _).set (j := 2) _).set (j := 3) _).set (j := 4) _)
    clear z0 z1 z2 z3 z4 f0 f1 f2 f3 f4 y0 y1 y2 y3
    generalize ((((w3.setCell ⟨w.heap.size + 1, 1, none⟩ (.int .i64 vw)).setCell ⟨w.heap.size + 1, 2, none⟩ (.int .i64 vts)).setCell ⟨w.heap.size + 1, 3, none⟩ (.bool vtm)).setCell ⟨w.heap.size + 1, 4, none⟩ (.string vv)) = w4 at *
    have H4 := HM0.out.later HB4.out
    have q12 := H4.c0 12
    simp only [mdC, List.getElem?_cons_succ, List.getElem?_cons_zero] at q12
    clear H4
    have z0 := K74.out.cell 0
    have z1 := K74.out.cell 1
    have z2 := K74.out.cell 2
    have z3 := K74.out.cell 3
    have z4 := K74.out.cell 4
    simp only [List.getElem?_toArray, List.getElem?_cons_zero, List.getElem?_cons_succ] at z0 z1 z2 z3 z4
    go_still_tail 6, (by kernel_rfl)
    change wpList _ _ _ _ _ (World.drew w4)
    have HB5 := Lib.hid (Below.drew HB4.out)
    have HM5 := Lib.hid (HM0.out.later HB5.out)
    have HMP := Lib.hid HM5.out.map
    clear q12 z0 z1 z2 z3 z4 HB4 K74 HM K7 K5 HB
    generalize World.drew w4 = w5 at *
    go_wp2_with (first
      | (at_mapUpdate; refine wpList_mapUpdate_own _ rfl _ _ _ 108 rfl 9 114 law9 Try.underlying108 RH x.b s.rows.length (DM x) rfl HMP.out (by have := HM5.out.ok.keys; have := may_lo HM5.out.ok.may; unfold maxLen; omega) _ _ (.string (bl key)) rfl rfl (keyS key HKS.out) (.held (rowV ⟨A, n, c, L, ⟨vw, vts, vtm, vv⟩⟩)) [] rfl ?_; intro w6 hmm hgg)
      | go_in)
    have HOK2 := Lib.hid (HOK.out HF0.out)
    have HE : Hid (putM s key ⟨vw, vts, vtm, vv⟩ = { s with rows := putK s.rows key (hdR ⟨A, n, c, L, ⟨vw, vts, vtm, vv⟩⟩) }) := Lib.hid (by unfold putM; rw [HG.out]; rfl)
    have HMV := Lib.hid (Mv.after (Mv.of_grown HM5.out hgg (HM5.out.put hgg hmm (HdAt.later HAT0.out HB5.out) (by have := HOK2.out; rw [HE.out] at this; exact this))) HB5.out)
    rw [← HE.out] at HMV
    clear hmm hgg HMP HM5 HB5
    go_wp2
    go_ret
    exact ⟨rfl, HMV.out⟩
end Go.Proofs.Ytoinjnocopejjaa
