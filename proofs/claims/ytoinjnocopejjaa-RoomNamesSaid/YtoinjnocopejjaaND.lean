/- ND, NE in one. -/
import Derived.Test.YtoinjnocopejjaaNB
import Derived.StillTailTactics
/- What stays when rows, one by one, become others; set, intents. -/
namespace Go.Proofs.Ytoinjnocopejjaa
open Go.ChangeShapes Go.WideShapes Go.ChangeAt Go.RowKit Go.Maps
set_option linter.unusedVariables false
set_option linter.unusedSimpArgs false
theorem rv_set1 (st sn o : Int) : ∀ (l : List (Int × Int)) (j : Nat), l[j]? = some (o, sn) → (rv txE l).set (j * 2) (.int .u8 st) = rv txE (l.set j (st, sn))
  | [], j, h => by simp at h
  | v :: l, 0, h => by
    simp at h; subst h; rfl
  | v :: l, j + 1, h => by
    rw [show (j + 1) * 2 = j * 2 + 1 + 1 from by omega]
    have ih := rv_set1 st sn o l j (by simpa using h)
    show (txE v ++ rv txE l).set (j * 2 + 1 + 1) _ = txE v ++ rv txE (l.set j _)
    rw [← ih]
    rfl
theorem ROwn.set1 {W : World} {B n : Nat} {v : Value} {L : List (Int × Int)} (h : ROwn txE 2 W B 112 v n L) {g j : Nat} (hg : v.ownBlock = some g) {st sn o : Int} (hj : L[j]? = some (o, sn)) : ROwn txE 2 (W.setCell ⟨g, j * 2, none⟩ (.int .u8 st)) B 112 v n (L.set j (st, sn)) := by
  have hO := h.2
  rcases h.2.2 with ⟨rfl, h2⟩ | ⟨g', cap, cur, rfl, _⟩
  · cases hg
  · cases hg
    have e := (hO.stored (j * 2) (.int .u8 st)).1
    rw [rv_set1 st sn o L j hj] at e
    exact ⟨by rw [List.length_set]; exact h.1, e⟩
theorem OkM.with_ {s : MS} (h : OkM s) {c f : Int} {tx : List (Int × Int)} {rows' : List (ByteArray × Rw)} (hc : s.clock ≤ c ∧ c ≤ s.cf.ts) (hf : 0 ≤ f ∧ f ≤ c) (hx : tx.length = s.txns.length) (ha : actN tx ≤ actN s.txns)
    (hs : ∀ t ∈ tx, 0 ≤ t.2 ∧ t.2 ≤ c ∧ 0 ≤ t.1 ∧ t.1 ≤ 4) (hu : Up rows') (hl : rows'.length ≤ s.rows.length)
    (hr : ∀ p ∈ rows', retR p.2 ≠ 0 ∧ (retR p.2 : Int) ≤ s.cf.de ∧ (0 ≤ p.2.2.w ∧ p.2.2.w ≤ s.txns.length ∧ (p.2.2.w = 0 → p.2.2 = ver0) ∧ p.2.2.ts = 0) ∧ Dec c p.2.1 ∧ p.1.size ≤ 64) :
    OkM ⟨s.cf, c, f, tx, s.tasks, rows'⟩ := by
  refine ⟨h.may, hu, fun p hp => (hr p hp).1, ?_, fun p hp => (hr p hp).2.1, h.ntask, ?_, fun p hp => ?_, ?_, ?_, hf, hs, fun p hp => (hr p hp).2.2.2.1, fun p hp => (hr p hp).2.2.2.2⟩
  · have := h.keys; show (rows'.length : Int) ≤ s.cf.ke; omega
  · intro l hl; show _ ≤ tx.length ∧ ∀ n ∈ l, _ ∧ n ≤ (tx.length : Int); rw [hx]; exact h.nums l hl
  · show _ ∧ _ ≤ (tx.length : Int) ∧ _; rw [hx]; exact (hr p hp).2.2.1
  · have := h.act; show (actN tx : Int) ≤ s.cf.ac; omega
  · have := h.clk; show 0 ≤ c ∧ c ≤ s.cf.ts; omega
theorem len_del {l : List (ByteArray × Rw)} (k : ByteArray) : (delK l k).length ≤ l.length := List.length_filter_le _ _
theorem len_setR {rows : List (ByteArray × Rw)} (hu : Up rows) {k : ByteArray} {r : Rw} (hk : hasK rows k = true) : (setR rows k r).length ≤ rows.length := by
  unfold setR
  split
  · exact len_del k
  · rw [len_put hu, if_pos hk]; exact Nat.le_refl _
theorem foldS_len {f : Rw → Rw} : ∀ {ks : List ByteArray} {rows : List (ByteArray × Rw)}, Up rows → ks.Nodup → (∀ k ∈ ks, hasK rows k = true) → (foldS f rows ks).length ≤ rows.length
  | [], _, _, _, _ => Nat.le_refl _
  | k :: ks, rows, hu, hn, hh => by
    obtain ⟨hk, hn⟩ := List.nodup_cons.1 hn
    have h1 := len_setR hu (r := f (getK rw0 rows k)) (hh k (List.mem_cons_self ..))
    have e : foldS f rows (k :: ks) = foldS f (setR rows k (f (getK rw0 rows k))) ks := rfl
    rw [e]
    refine Nat.le_trans (foldS_len (up_setR hu _ _) hn (fun k' hk' => ?_)) h1
    obtain ⟨r, hr⟩ := has_iff.1 (hh k' (List.mem_cons_of_mem _ hk'))
    exact has_iff.2 ⟨r, mem_setR.2 (.inr ⟨hr, fun e => hk (e ▸ hk')⟩)⟩
/-- .. behind some keys -/
theorem OkM.fold {s : MS} (h : OkM s) {c f : Int} {tx : List (Int × Int)} {g : Rw → Rw} {ks : List ByteArray} (hc : s.clock ≤ c ∧ c ≤ s.cf.ts) (hf : 0 ≤ f ∧ f ≤ c) (hx : tx.length = s.txns.length) (ha : actN tx ≤ actN s.txns)
    (hs : ∀ t ∈ tx, 0 ≤ t.2 ∧ t.2 ≤ c ∧ 0 ≤ t.1 ∧ t.1 ≤ 4) (hn : ks.Nodup) (hk : ∀ k ∈ ks, hasK s.rows k = true)
    (hr : ∀ p ∈ s.rows, p.1 ∈ ks → (retR (g p.2) : Int) ≤ s.cf.de ∧ (0 ≤ (g p.2).2.w ∧ (g p.2).2.w ≤ s.txns.length ∧ ((g p.2).2.w = 0 → (g p.2).2 = ver0) ∧ (g p.2).2.ts = 0) ∧ Dec c (g p.2).1) :
    OkM ⟨s.cf, c, f, tx, s.tasks, foldS g s.rows ks⟩ := by
  refine h.with_ hc hf hx ha hs (foldS_up h.up) (foldS_len h.up hn hk) (fun p hp => ?_)
  rcases (mem_foldS h.up hn hk p).1 hp with ⟨_, h2⟩ | ⟨h1, r, h2, h3, h4⟩
  · exact ⟨h.ret p h2, h.deep p h2, h.iw p h2, (h.dec p h2).mono hc.1, h.ksz p h2⟩
  · have := hr (p.1, r) h2 h1
    simp only at this
    rw [← h3] at this
    exact ⟨h4, this.1, this.2.1, this.2.2, h.ksz (p.1, r) h2⟩
/-- what a key has that none of the keys is -/
theorem foldS_get {f : Rw → Rw} {ks : List ByteArray} {rows : List (ByteArray × Rw)} (hu : Up rows) (hn : ks.Nodup) (hk : ∀ k ∈ ks, hasK rows k = true) {k : ByteArray} (hq : k ∉ ks) : getK rw0 (foldS f rows ks) k = getK rw0 rows k := by
  cases e : hasK rows k with
  | true =>
    have hm := get_mem (d := rw0) e
    exact get_of_mem (foldS_up hu) (p := (k, getK rw0 rows k)) ((mem_foldS hu hn hk _).2 (.inl ⟨hq, hm⟩))
  | false =>
    rw [get_none e, get_none]
    cases e2 : hasK (foldS f rows ks) k with
    | false => rfl
    | true =>
      obtain ⟨r, hr⟩ := has_iff.1 e2
      rcases (mem_foldS hu hn hk _).1 hr with ⟨_, h2⟩ | ⟨h1, _⟩
      · have := has_iff.2 ⟨r, h2⟩; rw [e] at this; cases this
      · exact absurd h1 hq
theorem nodup_take {α : Type} {l : List α} (h : l.Nodup) (n : Nat) : (l.take n).Nodup := h.sublist (List.take_sublist _ _)
theorem not_mem_take {α : Type} {l : List α} (h : l.Nodup) {n : Nat} {x : α} (hx : l[n]? = some x) : x ∉ l.take n := by
  induction l generalizing n with
  | nil => simp at hx
  | cons y l ih =>
    obtain ⟨h1, h2⟩ := List.nodup_cons.1 h
    cases n with
    | zero => simp
    | succ n =>
      have hx : l[n]? = some x := by simpa using hx
      rw [List.take_succ_cons, List.mem_cons]
      rintro (e | e)
      · exact h1 (e ▸ List.mem_of_getElem? hx)
      · exact ih h2 hx e
def NoEnd (s' : MS) (B p : Nat) (S : Nat → Prop) (w : World) (e : Ending) (w' : World) : Prop := e = .returned (.tuple #[]) ∧ Mv s' B p S w w'
set_option maxRecDepth 100000 in
set_option maxHeartbeats 4000000 in
theorem set_any (B p : Nat) (s : MS) (S : Nat → Prop) (k : ByteArray) (hd : Hd) (w : World) (h : MR w B p s S) (hk : k.size ≤ maxLen) (hv : HdAt w hd) (ok : OkM { s with rows := setR s.rows k (hdR hd) }) : Calls Try.prog 88 #[.pointer (some ⟨p, 0, none⟩), .string k, rowV hd] w (NoEnd { s with rows := setR s.rows k (hdR hd) } B p S w) := by
  obtain ⟨x, h, rfl⟩ := h
  have hlen := hv.1.len
  have h8 := hv.2.2.2
  have HRT : Hid (∀ W, Calls Try.prog 67 #[rowV hd] W fun e w' => e = .returned (.int .i64 (retR (hdR hd) : Nat)) ∧ Below W.heap.size W w') := Lib.hid (fun W => retained_any hd W hlen h8)
  have HD := Lib.hid hv
  have HM := Lib.hid h
  have HOK := Lib.hid ok
  have HK := Lib.hid hk
  clear hv h ok hk hlen h8
  obtain ⟨s', hs'⟩ : ∃ s', ({ s with rows := setR s.rows k (hdR hd) } : MS) = s' := ⟨_, rfl⟩
  have HS' := Lib.hid hs'
  rw [hs'] at HOK ⊢
  clear hs'
  obtain ⟨r, hr⟩ : ∃ r, retR (hdR hd) = r := ⟨_, rfl⟩
  have HR := Lib.hid hr
  rw [hr] at HRT
  clear hr
  obtain ⟨hd0_, hhd⟩ : ∃ q, hd = q := ⟨_, rfl⟩
  obtain ⟨A, n, c, L, ⟨iw, its, itm, iv⟩⟩ := hd
  subst hhd
  unfold rowV at HRT ⊢
  simp only at HRT ⊢
  have hb1 : Below w.heap.size w (w.alloc (.cells #[.slice A n c, .int .i64 iw, .int .i64 its, .bool itm, .string iv] 114)) := (Below.refl _ _).alloc (Nat.le_refl _) _
  have HB := Lib.hid hb1
  have K5 : Hid (Blk (w.alloc (.cells #[.slice A n c, .int .i64 iw, .int .i64 its, .bool itm, .string iv] 114)) w.heap.size #[.slice A n c, .int .i64 iw, .int .i64 its, .bool itm, .string iv] 114) := Lib.hid (Blk.new w _ 114)
  clear hb1
  go_enter Try.func88, Try.ntmps88
  go_wp2_with fail
  refine (HRT.out _).mono ?_
  rintro e w1 ⟨rfl, hb⟩
  replace HB := Lib.hid (stepB HB.out hb)
  replace K5 := Lib.hid (K5.out.later hb)
  clear hb HRT
  have hm2 := HM.out.later HB.out
  have k12 := hm2.c0 12
  simp only [mdC, List.getElem?_cons_succ, List.getElem?_cons_zero] at k12
  have HM2 := Lib.hid hm2
  clear hm2
  by_cases h0 : r = 0
  · have e0 : ((r : Int) == 0) = true := by rw [h0]; rfl
    have HE : Hid (s' = { s with rows := delK s.rows k }) := Lib.hid (by rw [← HS'.out]; unfold setR; rw [if_pos (by rw [HR.out]; exact h0)])
    have HMP := Lib.hid HM2.out.map
    clear h0
    go_wp2_with (first
      | (at_delete; refine wpList_delete_own _ rfl _ _ 108 9 rfl 114 law9 Try.underlying108 RH x.b s.rows.length (DM x) rfl HMP.out _ (.string (bl k)) rfl (keyS k HK.out) ?_; intro w2 hmm hgg)
      | go_in)
    have HG := Lib.hid hgg.grown
    have HMV := Lib.hid (Mv.after (Mv.of_grown HM2.out HG.out (HM2.out.del HG.out hmm (by have := HOK.out; rw [HE.out] at this; exact this))) HB.out)
    rw [← HE.out] at HMV
    clear hmm hgg HMP HM2 HB
    go_wp2
    exact bodyPost_end (results_none rfl _ _ _) rfl ⟨rfl, HMV.out⟩
  · have e0 : ((r : Int) == 0) = false := by rw [beq_eq_false_iff_ne]; omega
    have HE : Hid (s' = { s with rows := putK s.rows k (hdR ⟨A, n, c, L, ⟨iw, its, itm, iv⟩⟩) }) := Lib.hid (by rw [← HS'.out]; unfold setR; rw [if_neg (by rw [HR.out]; exact h0)])
    have z0 := K5.out.cell 0
    have z1 := K5.out.cell 1
    have z2 := K5.out.cell 2
    have z3 := K5.out.cell 3
    have z4 := K5.out.cell 4
    simp only [List.getElem?_toArray, List.getElem?_cons_zero, List.getElem?_cons_succ] at z0 z1 z2 z3 z4
    clear h0
    go_upto_region 3 with (fail)
    go_still_tail 6, (by kernel_rfl)
    change wpList _ _ _ _ _ (World.drew w1)
    have HB5 := Lib.hid (Below.drew HB.out)
    have HM5 := Lib.hid (HM.out.later HB5.out)
    have HMP := Lib.hid HM5.out.map
    clear k12 z0 z1 z2 z3 z4 K5 HM2 HB
    generalize World.drew w1 = w5 at *
    go_wp2_with (first
      | (at_mapUpdate; refine wpList_mapUpdate_own _ rfl _ _ _ 108 rfl 9 114 law9 Try.underlying108 RH x.b s.rows.length (DM x) rfl HMP.out (by have := HM5.out.ok.keys; have := may_lo HM5.out.ok.may; unfold maxLen; omega) _ _ (.string (bl k)) rfl rfl (keyS k HK.out) (.held (rowV ⟨A, n, c, L, ⟨iw, its, itm, iv⟩⟩)) [] rfl ?_; intro w6 hmm hgg)
      | go_in)
    have HMV := Lib.hid (Mv.after (Mv.of_grown HM5.out hgg (HM5.out.put hgg hmm (HdAt.later HD.out HB5.out) (by have := HOK.out; rw [HE.out] at this; exact this))) HB5.out)
    rw [← HE.out] at HMV
    clear hmm hgg HMP HM5 HB5
    go_wp2
    exact bodyPost_end (results_none rfl _ _ _) rfl ⟨rfl, HMV.out⟩
end Go.Proofs.Ytoinjnocopejjaa

/- intents. -/
namespace Go.Proofs.Ytoinjnocopejjaa
open Go.ChangeShapes Go.WideShapes Go.ChangeAt Go.RowKit Go.Maps
set_option linter.unusedVariables false
set_option linter.unusedSimpArgs false
set_option maxRecDepth 100000 in
set_option maxHeartbeats 16000000 in
theorem elemS : Elem Try.prog 40 9 sE 16 where
  und := Try.underlying40
  info := by
    have h : (Try.prog.info? 9).map (fun i => (i.zero, i.size, i.bytes)) = some (some (.string ByteArray.empty), 1, 16) := by kernel_rfl
    cases hi : Try.prog.info? 9 with
    | none => rw [hi] at h; cases h
    | some i => rw [hi] at h; simp only [Option.map_some, Option.some.injEq, Prod.mk.injEq] at h; exact ⟨i, _, rfl, h.1, h.2.1, h.2.2, rfl⟩
  one := fun _ => rfl
theorem idx40 (g off m c k : Nat) (i : Int) (hi : i = (k : Int)) (h : k < m) (W : World) : (Instr.indexAt 40 (.slice (some ⟨g, off, none⟩) m c) (.int .i64 i)).run Try.prog W = .ok (.pointer (some ⟨g, off + k, none⟩)) W := by
  subst hi
  have h1 : (0 : Int) ≤ (k : Int) ∧ (k : Int) < (m : Int) := by omega
  go_simp
theorem fieldI (A : Option Addr) (n c : Nat) (a b : Int) (d : Bool) (e : ByteArray) (W : World) : (Instr.field 114 (.agg #[.slice A n c, .int .i64 a, .int .i64 b, .bool d, .string e]) 1).run Try.prog W = .ok (.agg #[.int .i64 a, .int .i64 b, .bool d, .string e]) W := by kernel_rfl
theorem fieldL (A : Option Addr) (n c : Nat) (a b : Int) (d : Bool) (e : ByteArray) (W : World) : (Instr.field 114 (.agg #[.slice A n c, .int .i64 a, .int .i64 b, .bool d, .string e]) 0).run Try.prog W = .ok (.slice A n c) W := by kernel_rfl
theorem fieldW (a b : Int) (d : Bool) (e : ByteArray) (W : World) : (Instr.field 26 (.agg #[.int .i64 a, .int .i64 b, .bool d, .string e]) 0).run Try.prog W = .ok (.int .i64 a) W := by kernel_rfl
theorem intK_app (w : Int) (l m : List (ByteArray × Rw)) : intK w (l ++ m) = intK w l ++ intK w m := by
  unfold intK; rw [List.filter_append, List.map_append]
theorem intK_snoc (v : Int) (rows : List (ByteArray × Rw)) (k : Nat) (q : ByteArray × Rw) (h : rows[k]? = some q) : intK v (rows.take (k + 1)) = intK v (rows.take k) ++ (if q.2.2.w = v then [q.1] else []) := by
  rw [List.take_add_one, h, intK_app]
  congr 1
  unfold intK
  simp only [Option.toList, List.filter_cons, List.filter_nil]
  by_cases e : q.2.2.w = v
  · rw [decide_eq_true e, if_pos e]; rfl
  · rw [decide_eq_false e, if_neg e]; rfl
theorem intK_le (v : Int) (rows : List (ByteArray × Rw)) : (intK v rows).length ≤ rows.length := by
  unfold intK; rw [List.length_map]; exact List.length_filter_le _ _
set_option maxRecDepth 100000 in
set_option maxHeartbeats 8000000 in
theorem intents_any (B p : Nat) (s : MS) (S : Nat → Prop) (v : Int) (w : World) (h : MR w B p s S) : Calls Try.prog 82 #[.pointer (some ⟨p, 0, none⟩), .int .i64 v] w (KeysEnd (intK v s.rows) w) := by
  have HKE := Lib.hid (fun W (hb : Below w.heap.size w W) => keys_any B p s S W (h.later hb))
  obtain ⟨x, h, _⟩ := h
  have HM := Lib.hid h
  have HKS : Hid (∀ q ∈ s.rows, q.1.size ≤ maxLen) := Lib.hid (fun q hq => by have := h.ok.ksz q hq; unfold maxLen; omega)
  have hr64 : s.rows.length ≤ 64 := by have := h.ok.keys; have := may_lo h.ok.may; omega
  have HR64 := Lib.hid hr64
  clear h hr64
  go_enter Try.func82, Try.ntmps82
  go_wp2_with fail
  refine (HKE.out _ (Below.refl _ _)).mono ?_
  rintro e w1 ⟨vk, rfl, ho, hb⟩
  obtain ⟨A, c, rfl, hs⟩ := ho.sl
  obtain ⟨n, hn⟩ : ∃ n, s.rows.length = n := ⟨_, rfl⟩
  have HLN := Lib.hid hn
  rw [List.length_map, hn] at hs ho
  rw [List.length_map, hn]
  have HB := Lib.hid hb
  have HS := Lib.hid hs
  rw [hn] at HR64
  clear ho hb hs HKE hn
  go_wp2
  go_loopw [5, 11] (fun k5 i W => ∃ (k : Nat), k ≤ n ∧ i = .int .i64 k ∧ Ow sE W w1.heap.size 9 k5 (intK v (s.rows.take k)).length (intK v (s.rows.take k)) ∧ Below w.heap.size w W ∧ Below w1.heap.size w1 W) (fun _ i _ => n - (intOf i).toNat)
  case atStart => exact ⟨0, Nat.zero_le _, rfl, Ow.none _ _ _, HB.out, Below.refl _ _⟩
  case round =>
    obtain ⟨k, hk, rfl, ho, hb, hb1⟩ := hrel
    have HBW := Lib.hid hb
    have HB1 := Lib.hid hb1
    have HO := Lib.hid ho
    by_cases hlt : k < n
    · have d2 : decide ((k : Int) < (n : Int)) = true := decide_eq_true (by omega)
      have wk : IntKind.i64.wrap ((k : Int) + 1) = (k : Int) + 1 := IntWalk.i64_in _ (by have := HR64.out; omega)
      obtain ⟨g, off, rfl, hg, hcell⟩ := HS.out.rd.2 (by omega)
      have hrk : s.rows[k]? = some (s.rows[k]'(by rw [HLN.out]; exact hlt)) := List.getElem?_eq_getElem _
      generalize s.rows[k]'(by rw [HLN.out]; exact hlt) = q at *
      obtain ⟨key, r⟩ := q
      have HKM := Lib.hid (List.mem_of_getElem? hrk)
      have y1 := (hb1.cell (p := ⟨g, off + k, none⟩) hg).trans (hcell k key (by rw [List.getElem?_map, hrk]; rfl))
      have i1 := idx40 g off n c k (k : Int) rfl hlt
      have HNX := Lib.hid (intK_snoc v s.rows k (key, r) hrk)
      have hm2 := HM.out.later hb
      have k12 := hm2.c0 12
      simp only [mdC, List.getElem?_cons_succ, List.getElem?_cons_zero] at k12
      have hlk := hm2.look0 key (HKS.out _ HKM.out)
      have hgr := hm2.getR key
      have hgk : getR s key = r := get_of_mem HM.out.ok.up HKM.out
      obtain ⟨hd, hq0⟩ : ∃ hd, hdG x key = hd := ⟨_, rfl⟩
      rw [hq0] at hlk hgr
      obtain ⟨A2, n2, c2, L2, ⟨iw, its, itm, iv⟩⟩ := hd
      unfold rowV at hlk
      simp only at hlk
      have HIW : Hid (r.2.w = iw) := Lib.hid (by rw [← hgk, hgr]; rfl)
      have hle := intK_le v (s.rows.take k)
      have HLE : Hid ((intK v (s.rows.take k)).length ≤ 64) := Lib.hid (by rw [List.length_take] at hle; have := HR64.out; omega)
      unfold sE at y1
      have hf1 := fieldI A2 n2 c2 iw its itm iv
      have hf2 := fieldW iw its itm iv
      clear hcell hrk hm2 hgr hgk hq0 hg hb hb1 ho hle
      by_cases hi : iw = v
      · have e1 : (iw == v) = true := by rw [hi]; simp
        have HNY : Hid (intK v (s.rows.take (k + 1)) = intK v (s.rows.take k) ++ [key]) := Lib.hid (by rw [HNX.out, if_pos (by simp only; rw [HIW.out]; exact hi)])
        clear hi
        generalize intK v (s.rows.take k) = L at *
        have hb3 : Below wr.heap.size wr (wr.alloc (.cells #[.string key] 9)) := (Below.refl _ _).alloc (Nat.le_refl _) _
        have HO3 := Lib.hid (HO.out.later hb3)
        have HBA := Lib.hid (stepB HBW.out hb3)
        have HBA1 := Lib.hid (stepB HB1.out hb3)
        have HSL : Hid (Sl sE (wr.alloc (.cells #[.string key] 9)) (some ⟨wr.heap.size, 0, none⟩) 1 1 [key]) := Lib.hid (Blk.sl (enc := sE) (xs := [key]) (Blk.new wr #[.string key] 9))
        clear hb3
        go_wp2_with (first
          | (at_builtin; refine wpList_append_sl elemS rfl _ _ rfl w1.heap.size _ L.length L rfl HO3.out _ 1 1 [key] rfl HSL.out (by have := HLE.out; omega) (by decide) HBA1.out.size ?_; intro v5 w4 ho4 hg4)
          | go_in)
        have HO4 : Hid (Ow sE w4 w1.heap.size 9 v5 (intK v (s.rows.take (k + 1))).length (intK v (s.rows.take (k + 1)))) := Lib.hid (by rw [HNY.out, List.length_append, List.length_singleton]; exact ho4)
        have HB4 := Lib.hid (HBA.out.grown hg4 HBA.out.size (fun j e => by have := (HO3.out.lt j e).1; have := HB.out.size; omega))
        have HB41 := Lib.hid (HBA1.out.grown hg4 HBA1.out.size (fun j e => (HO3.out.lt j e).1))
        clear ho4 hg4 HO3 HBA HBA1 HSL HO
        go_wp2
        go_roundw
        case rel => exact ⟨k + 1, by omega, rfl, HO4.out, HB4.out, HB41.out⟩
        case measure => simp [intOf]; omega
      · have e1 : (iw == v) = false := by rw [beq_eq_false_iff_ne]; exact hi
        have HNY : Hid (intK v (s.rows.take (k + 1)) = intK v (s.rows.take k)) := Lib.hid (by rw [HNX.out, if_neg (by simp only; rw [HIW.out]; exact hi), List.append_nil])
        clear hi
        go_wp2
        go_roundw
        case rel => exact ⟨k + 1, by omega, rfl, by rw [HNY.out]; exact HO.out, HBW.out, HB1.out⟩
        case measure => simp [intOf]; omega
    · have d2 : decide ((k : Int) < (n : Int)) = false := decide_eq_false (by omega)
      have HNY : Hid (intK v (s.rows.take k) = intK v s.rows) := Lib.hid (by rw [List.take_of_length_le (by rw [HLN.out]; omega)])
      rw [HNY.out] at HO
      clear hb hb1 ho
      go_wp2
      go_ret
      exact ⟨_, rfl, Ow.base HO.out HB.out.size, HBW.out⟩
end Go.Proofs.Ytoinjnocopejjaa
