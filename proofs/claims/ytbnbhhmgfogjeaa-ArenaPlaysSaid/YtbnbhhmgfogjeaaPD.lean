/- The document's rows of what was given, how often a slot was given; its arena in memory, what stays; New. -/
import Derived.Test.YtbnbhhmgfogjeaaGY
import Derived.Laws.AppendOwnNone
namespace Go.Proofs.Ytbnbhhmgfogjeaa
open Go.ChangeShapes Go.WideShapes Go.ChangeAt Go.RowKit Go.Maps
set_option linter.unusedVariables false
set_option linter.unusedSimpArgs false

theorem h93info : (Try.prog.info? 93).map (fun i => (i.zero, i.size, i.bytes)) = some (some (.agg #[.int .u16 0, .int .u16 0, .int .u32 0]), 3, 8) := by kernel_rfl
abbrev ct0 : gn.Ct := (0, 0)
def hd1 (p : gn.Ct) : List Value := [.int .u16 (p.1 / 65536), .int .u16 (p.1 % 65536), .int .u32 p.2]
def hdv : List gn.Ct → List Value
  | [] => []
  | p :: l => hd1 p ++ hdv l
theorem hdv_len : ∀ l : List gn.Ct, (hdv l).length = l.length * 3
  | [] => rfl
  | v :: l => by simp [hdv, hd1, hdv_len l]; omega
theorem hdv_app : ∀ (l m : List gn.Ct), hdv (l ++ m) = hdv l ++ hdv m
  | [], m => rfl
  | v :: l, m => by simp [hdv, hdv_app l m]
theorem hdv_at : ∀ (l : List gn.Ct) (j i : Nat), j < l.length → i < 3 → (hdv l)[j * 3 + i]? = (hd1 (l.getD j ct0))[i]?
  | [], j, i, h, _ => by simp at h
  | v :: l, 0, i, h, hi => by
    show (hd1 v ++ hdv l)[0 * 3 + i]? = _
    rw [List.getElem?_append_left (by simp [hd1]; omega)]
    simp
  | v :: l, j + 1, i, h, hi => by
    have ih := hdv_at l j i (by simp at h; omega) hi
    show (hd1 v ++ hdv l)[(j + 1) * 3 + i]? = _
    rw [List.getElem?_append_right (by simp [hd1]; omega), show (j + 1) * 3 + i - (hd1 v).length = j * 3 + i from by simp [hd1]; omega, ih]
    rfl
theorem hdv_one : ∀ (l : List gn.Ct), ∀ u ∈ hdv l, u.oneCell' = true
  | [], u, h => by cases h
  | v :: l, u, h => by
    rcases List.mem_append.1 (show u ∈ hd1 v ++ hdv l from h) with h | h
    · simp [hd1] at h
      rcases h with rfl | rfl | rfl <;> rfl
    · exact hdv_one l u h
structure HCell (W : World) (g o : Nat) (p : gn.Ct) : Prop where
  c0 : W.cell? ⟨g, o, none⟩ = some (.int .u16 (p.1 / 65536))
  c1 : W.cell? ⟨g, o + 1, none⟩ = some (.int .u16 (p.1 % 65536))
  c2 : W.cell? ⟨g, o + 2, none⟩ = some (.int .u32 p.2)
/-- a slice that reads as holds -/
def HSl (W : World) (A : Option Addr) (m : Nat) (L : List gn.Ct) : Prop :=
  L.length = m ∧ (0 < m → ∃ g off, A = some ⟨g, off, none⟩ ∧ g < W.heap.size ∧ ∀ j, j < m → HCell W g (off + j * 3) (L.getD j ct0))
theorem HSl.later {W W' : World} {A : Option Addr} {m : Nat} {L : List gn.Ct} (h : HSl W A m L) (hb : Below W.heap.size W W') : HSl W' A m L :=
  ⟨h.1, fun hn => by
    obtain ⟨g, off, hA, hg, hc⟩ := h.2 hn
    exact ⟨g, off, hA, Nat.lt_of_lt_of_le hg hb.size, fun j hj => ⟨(hb.cell (p := ⟨g, off + j * 3, none⟩) hg).trans (hc j hj).c0, (hb.cell (p := ⟨g, off + j * 3 + 1, none⟩) hg).trans (hc j hj).c1, (hb.cell (p := ⟨g, off + j * 3 + 2, none⟩) hg).trans (hc j hj).c2⟩⟩⟩
def HOwn (W : World) (B : Nat) (v : Value) (n : Nat) (L : List gn.Ct) : Prop := L.length = n ∧ W.ownsRow B 93 3 v n (hdv L)
section
variable {W W' : World} {B B' n : Nat} {v : Value} {L : List gn.Ct}
theorem HOwn.sl (h : HOwn W B v n L) : ∃ A c, v = .slice A n c ∧ n ≤ c ∧ (A = none → n = 0 ∧ c = 0) := by
  rcases h.2.2 with ⟨rfl, h2⟩ | ⟨g, cap, cur, rfl, hB, hg, hn, hm, hs, ht⟩
  · exact ⟨none, 0, by rw [h2], by omega, fun _ => ⟨h2, rfl⟩⟩
  · exact ⟨_, cap, rfl, hn, fun h => by cases h⟩
theorem HOwn.none (W : World) (B : Nat) : HOwn W B (.slice none 0 0) 0 [] := ⟨rfl, World.ownsRow_nil _ _ _ _⟩
theorem HOwn.fresh {g : Nat} (W : World) (hB : B ≤ W.heap.size) (hk : W.heap.size = g) : HOwn (W.alloc (.cells #[] 93)) B (.slice (some ⟨g, 0, .none⟩) 0 0) 0 [] := by
  subst hk
  refine ⟨rfl, rfl, .inr ⟨W.heap.size, 0, #[], rfl, hB, ?_, by omega, by simp, ?_, ?_⟩⟩
  · simpa using heap_alloc_new W (.cells #[] 93)
  · simp [hdv]
  · simp [hdv]
theorem HOwn.later (h : HOwn W B v n L) (hb : Below W.heap.size W W') : HOwn W' B v n L := ⟨h.1, World.ownsRow.kept h.2 (row := .none) ⟨hb.os, hb.tape, hb.output, hb.size, fun k hk _ => hb.block k hk⟩ (by cases v.ownBlock <;> simp)⟩
theorem HOwn.base (h : HOwn W B v n L) (hb : B' ≤ B) : HOwn W B' v n L := by
  refine ⟨h.1, h.2.1, ?_⟩
  rcases h.2.2 with h | ⟨g, cap, cur, e, hB, r⟩
  · exact .inl h
  · exact .inr ⟨g, cap, cur, e, Nat.le_trans hb hB, r⟩
theorem HOwn.lt (h : HOwn W B v n L) : ∀ k, v.ownBlock = some k → B ≤ k ∧ k < W.heap.size := World.ownsRow.lt h.2
theorem HOwn.tag (h : HOwn W B v n L) : ∀ k, v.ownBlock = some k → ∃ cur, W.heap[k]? = some (.cells cur 93 (0, 0)) := fun k hk => by
  rcases h.2.2 with ⟨rfl, _⟩ | ⟨g, cap, cur, rfl, hb, hg, _⟩
  · cases hk
  · cases hk; exact ⟨cur, hg⟩
theorem HOwn.kept {r : Option Nat} (h : HOwn W B v n L) (hg : W.grownBy W' r) (hr : ∀ k, v.ownBlock = some k → some k ≠ r) : HOwn W' B v n L :=
  ⟨h.1, World.ownsRow.kept h.2 hg (by
    cases ho : v.ownBlock with
    | none => exact .inl rfl
    | some k => exact .inr (fun e => hr k ho e))⟩
theorem HOwn.hsl {A : Option Addr} {c : Nat} (h : HOwn W B (.slice A n c) n L) : HSl W A n L := by
  refine ⟨h.1, fun hn => ?_⟩
  have hO := h.2
  rcases h.2.2 with ⟨e, h2⟩ | ⟨g, cap, cur, e, hB, hg, _⟩
  · omega
  · cases e
    refine ⟨g, 0, rfl, (Array.getElem?_eq_some_iff.1 hg).1, fun j hj => ?_⟩
    have hc : ∀ i, i < 3 → W.cell? ⟨g, j * 3 + i, .none⟩ = (hd1 (L.getD j ct0))[i]? := fun i hi => by
      rw [hO.cellAt (j * 3 + i) (by omega), hdv_at L j i (by rw [h.1]; exact hj) hi]
    rw [Nat.zero_add]
    exact ⟨hc 0 (by omega), hc 1 (by omega), hc 2 (by omega)⟩
theorem Blk.hsl {g : Nat} {p : gn.Ct} {t : TypeId} (h : Blk W g (hd1 p).toArray t) : HSl W (some ⟨g, 0, .none⟩) 1 [p] :=
  ⟨rfl, fun _ => ⟨g, 0, rfl, h.lt, fun j hj => by
    obtain rfl : j = 0 := by omega
    exact ⟨h.cell _, h.cell _, h.cell _⟩⟩⟩
end
theorem hs_cells {W : World} {ad : Addr} {m : Nat} {ys : List gn.Ct} (hy : HSl W (some ad) m ys) : ∀ j u, (hdv ys)[j]? = some u → W.cell? (ad.add j) = some u := fun j u hu => by
  have hj : j < (hdv ys).length := (List.getElem?_eq_some_iff.1 hu).1
  rw [hdv_len, hy.1] at hj
  obtain ⟨g, off, e, _, hc⟩ := hy.2 (by omega)
  cases e
  have h4 : j / 3 < m := by omega
  have hcc := hc (j / 3) h4
  rw [add_plain]
  have ej : j = j / 3 * 3 + j % 3 := by omega
  have hi := hdv_at ys (j / 3) (j % 3) (by rw [hy.1]; exact h4) (by omega)
  rw [← ej] at hi
  rw [hi] at hu
  generalize ys.getD (j / 3) ct0 = s at *
  have hr : j % 3 = 0 ∨ j % 3 = 1 ∨ j % 3 = 2 := by omega
  rcases hr with hr | hr | hr
  · rw [hr] at hu; rw [show off + j = off + j / 3 * 3 from by omega, hcc.c0]; exact hu
  · rw [hr] at hu; rw [show off + j = off + j / 3 * 3 + 1 from by omega, hcc.c1]; exact hu
  · rw [hr] at hu; rw [show off + j = off + j / 3 * 3 + 2 from by omega, hcc.c2]; exact hu
section
variable {w : World} {ops : Array Oper} {rest : List Oper} {o : Oper} {a : Act} {Q : Exit → Act → World → Prop}
/-- 'append(s, x...)' at holds -/
theorem append_hd (hgd : o.guard = .none) (s x : Operand)
    (ho : o.op = .call { callee := .builtin .append, args := #[s, x], argTypes := #[54, 54] })
    (B : Nat) (v : Value) (n : Nat) (xs : List gn.Ct) (hs : a.eval s = v) (hown : HOwn w B v n xs)
    (A : Option Addr) (m c : Nat) (ys : List gn.Ct) (hx : a.eval x = .slice A m c) (hy : HSl w A m ys) (hnil : A = .none → m = 0 ∧ c = 0) (hb : n + m ≤ 100000) (hbase : B ≤ w.heap.size)
    (h : ∀ v' w', HOwn w' B v' (n + m) (xs ++ ys) → w.grownBy w' v.ownBlock → wpList Try.prog ops Q rest (a.put o.dst v') w') :
    wpList Try.prog ops Q (o :: rest) a w := by
  obtain ⟨i0, hi, hz0, hz1, hz2⟩ := info_parts h93info
  cases A with
  | none =>
    obtain ⟨rfl, rfl⟩ := hnil rfl
    refine wpList_append_own_none hgd s x 54 ho B 93 i0 3 Try.underlying54 hi v n _ hs hown.2 hx ?_
    have hys : ys = [] := List.eq_nil_of_length_eq_zero hy.1
    exact h v w (by rw [hys, List.append_nil]; exact hown) (World.grownBy.refl _ _)
  | some ad =>
    exact wpList_append_own w hgd s x 54 ho B 93 i0 _ 3 8 Try.underlying54 hi hz0 hz1 hz2 rfl (by decide) v n _ hs hown.2 ad m c (hdv ys) hx (by rw [hdv_len, hy.1]) (hs_cells hy) (fun u hu => hdv_one ys u hu) (by unfold maxLen; omega) (by omega) hbase (fun v' w' h1 h2 _ => h v' w' ⟨by rw [List.length_append, hown.1, hy.1], by rw [hdv_app]; exact h1⟩ h2)
theorem step_append_hd {K : Act → World → Prop} {D : Prop} (hgd : o.guard = .none) (s x : Operand)
    (ho : o.op = .call { callee := .builtin .append, args := #[s, x], argTypes := #[54, 54] })
    (B : Nat) (v : Value) (n : Nat) (xs : List gn.Ct) (hs : a.eval s = v) (hown : HOwn w B v n xs)
    (A : Option Addr) (m c : Nat) (ys : List gn.Ct) (hx : a.eval x = .slice A m c) (hy : HSl w A m ys) (hnil : A = .none → m = 0 ∧ c = 0) (hb : n + m ≤ 100000) (hbase : B ≤ w.heap.size)
    (h : ∀ v' w', HOwn w' B v' (n + m) (xs ++ ys) → w.grownBy w' v.ownBlock → K (a.put o.dst v') w') :
    if Region.wanted o (yielded ops a.tmps) = true then Oper.wp Try.prog o a w K Q else D := by
  have hw : Region.wanted o (yielded ops a.tmps) = true := by simp [Region.wanted, hgd]
  rw [if_pos hw]
  obtain ⟨i0, hi, hz0, hz1, hz2⟩ := info_parts h93info
  cases A with
  | none =>
    obtain ⟨rfl, rfl⟩ := hnil rfl
    have hrun := run_append_owned_none (P := Try.prog) (w := w) B 54 o.type 93 i0 3 Try.underlying54 hi v n _ hown.2
    have hys : ys = [] := List.eq_nil_of_length_eq_zero hy.1
    have hh := h v w (by rw [hys, List.append_nil]; exact hown) (World.grownBy.refl _ _)
    unfold Oper.wp
    simp [execOp, ho, resolve, invoke, builtin, hs, hx, hrun, Result.andThen]
    exact hh
  | some ad =>
    exact wp_append_own w s x 54 ho B 93 i0 _ 3 8 Try.underlying54 hi hz0 hz1 hz2 rfl (by decide) v n _ hs hown.2 ad m c (hdv ys) hx (by rw [hdv_len, hy.1]) (hs_cells hy) (fun u hu => hdv_one ys u hu) (by unfold maxLen; omega) (by omega) hbase (fun v' w' h1 h2 _ => h v' w' ⟨by rw [List.length_append, hown.1, hy.1], by rw [hdv_app]; exact h1⟩ h2)
end

theorem first_hit : ∀ {L : List gn.Ct} {z : Int} {k : Nat}, k < L.length → (∀ j, j < k → (L.getD j ct0).1 ≠ z) → (L.getD k ct0).1 = z → gn.ofC L z = (L.getD k ct0).2
  | [], _, _, h, _, _ => by simp at h
  | p :: L, z, 0, _, _, e => if_pos (show p.1 = z from e)
  | p :: L, z, k + 1, h, ha, e => by
    have h0 : p.1 ≠ z := ha 0 (by omega)
    exact (if_neg h0).trans (first_hit (L := L) (z := z) (k := k) (by simpa using h) (fun j hj => ha (j + 1) (by omega)) e)
theorem no_hit : ∀ {L : List gn.Ct} {z : Int}, (∀ j, j < L.length → (L.getD j ct0).1 ≠ z) → gn.ofC L z = 0
  | [], _, _ => rfl
  | p :: L, z, h => (if_neg (h 0 (by simp))).trans (no_hit (L := L) (fun j hj => h (j + 1) (by simpa using hj)))
theorem idx54 (g off m c k : Nat) (i : Int) (hi : i = (k : Int)) (h : k < m) (W : World) : (Instr.indexAt 54 (.slice (some ⟨g, off, none⟩) m c) (.int .i64 i)).run Try.prog W = .ok (.pointer (some ⟨g, off + k * 3, none⟩)) W := by
  subst hi
  have h1 : (0 : Int) ≤ (k : Int) ∧ (k : Int) < (m : Int) := by omega
  go_simp
theorem getD_memG {L : List gn.Ct} {k : Nat} (h : k < L.length) : L.getD k ct0 ∈ L := by
  rw [List.getD_eq_getElem?_getD, List.getElem?_eq_getElem h]; exact List.getElem_mem h
set_option maxRecDepth 100000 in
set_option maxHeartbeats 4000000 in
theorem dgen_any (B q s : Nat) (vP vG : Value) (L : List gn.Ct) (w : World) (hb : Blk w q #[.int .i64 (s : Int), vP, vG] 56) (ho : HOwn w B vG L.length L) (hr : ∀ p ∈ L, gn.rg p.1) (hl : L.length ≤ 100000) (pg of_ : Int) (p0 : 0 ≤ pg) (p1 : pg ≤ 65535) (o0 : 0 ≤ of_) (o1 : of_ ≤ 65535) : Calls Try.prog 49 #[.pointer (some ⟨q, 0, none⟩), .int .u16 pg, .int .u16 of_] w fun e w' => e = .returned (.int .u32 (gn.ofC L (pg * 65536 + of_))) ∧ w = w' := by
  obtain ⟨AV, cV, rfl, _⟩ := ho.sl
  have HO := Lib.hid ho.hsl
  have HRG := Lib.hid hr
  have c2 := hb.cell 2
  simp only [List.getElem?_toArray, List.getElem?_cons_zero, List.getElem?_cons_succ] at c2
  clear ho hr hb
  go_enter Try.func49, Try.ntmps49
  go_wp2
  go_loop [7] (fun i => ∃ k : Nat, k ≤ L.length ∧ i = .int .i64 k ∧ ∀ j, j < k → (L.getD j ct0).1 ≠ pg * 65536 + of_) (fun i => L.length - (intOf i).toNat)
  case atStart => exact ⟨0, Nat.zero_le _, rfl, fun j h => absurd h (Nat.not_lt_zero _)⟩
  case round =>
    obtain ⟨k, hk, rfl, hne⟩ := hrel
    have HNE := Lib.hid hne
    clear hne
    by_cases hlt : k < L.length
    · have d1 : decide ((k : Int) < (L.length : Int)) = true := decide_eq_true (by omega)
      have wk : IntKind.i64.wrap ((k : Int) + 1) = (k : Int) + 1 := IntWalk.i64_in _ (by omega)
      obtain ⟨g, off, rfl, hg, hc⟩ := HO.out.2 (by omega)
      obtain ⟨x0, x1, x2⟩ := hc k hlt
      have i5 := idx54 g off L.length cV k (k : Int) rfl hlt
      have hrg := HRG.out _ (getD_memG hlt)
      have HFH := Lib.hid (first_hit hlt HNE.out)
      obtain ⟨⟨z, n⟩, hx⟩ : ∃ x, L.getD k ct0 = x := ⟨_, rfl⟩
      rw [hx] at x0 x1 x2 hrg HFH
      have HX := Lib.hid hx
      simp only at x0 x1 x2 hrg HFH
      have hr1 : 0 ≤ z ∧ z ≤ 4294967295 := by have h := hrg; unfold gn.rg at h; omega
      obtain ⟨zp, hzp⟩ : ∃ zp, z / 65536 = zp := ⟨_, rfl⟩
      obtain ⟨zo, hzo⟩ : ∃ zo, z % 65536 = zo := ⟨_, rfl⟩
      rw [hzp] at x0
      rw [hzo] at x1
      clear hg hc hx hrg
      have HIF : Hid (z = pg * 65536 + of_ ↔ zp = pg ∧ zo = of_) := by show _ ↔ _; omega
      have HEX : Hid (z = zp * 65536 + zo) := by show _ = _; omega
      clear hr1 hzp hzo
      by_cases e1 : zp = pg
      · have b1 : (zp == pg) = true := by rw [e1]; simp
        by_cases e2 : zo = of_
        · have b2 : (zo == of_) = true := by rw [e2]; simp
          have HV := Lib.hid (HFH.out (HIF.out.2 ⟨e1, e2⟩))
          clear e1 e2
          go_wp2
          go_ret
          exact ⟨by rw [HV.out]; rfl, rfl⟩
        · have b2 : (zo == of_) = false := by rw [beq_eq_false_iff_ne]; exact e2
          have HN2 : Hid (z ≠ pg * 65536 + of_) := fun e => e2 (HIF.out.1 e).2
          clear e1 e2
          go_wp2
          go_round
          case rel => exact ⟨k + 1, by omega, by go_num, fun j hj => by
            by_cases ej : j = k
            · rw [ej, HX.out]; exact HN2.out
            · exact HNE.out j (by omega)⟩
          case measure => simp [intOf]; omega
      · have b1 : (zp == pg) = false := by rw [beq_eq_false_iff_ne]; exact e1
        have HN2 : Hid (z ≠ pg * 65536 + of_) := fun e => e1 (HIF.out.1 e).1
        clear e1
        go_wp2
        go_round
        case rel => exact ⟨k + 1, by omega, by go_num, fun j hj => by
          by_cases ej : j = k
          · rw [ej, HX.out]; exact HN2.out
          · exact HNE.out j (by omega)⟩
        case measure => simp [intOf]; omega
    · obtain rfl : k = L.length := by omega
      have d1 : decide ((L.length : Int) < (L.length : Int)) = false := decide_eq_false (by omega)
      have HV := Lib.hid (no_hit HNE.out)
      go_wp2
      go_ret
      exact ⟨by rw [HV.out]; rfl, rfl⟩

/-- a page of the document's -/
structure De where
  q : Nat
  Bs : List ByteArray
  Us : List Bool
  Bk : List Nat
  vB : Value
  vU : Value
  vK : Value
  P : PS
def De.ok (W : World) (B s : Nat) (d : De) : Prop := Dx W B d.q s d.Bs d.Us d.Bk d.vB d.vU d.vK ∧ Rel s d.P d.Bs d.Us d.Bk
/-- the blocks that are the page's -/
def De.own (d : De) (k : Nat) : Prop := k = d.q ∨ d.vB.ownBlock = some k ∨ d.vU.ownBlock = some k ∨ d.vK.ownBlock = some k
structure Da (W : World) (B q s : Nat) (vP vG : Value) (Ds : List De) (L : List gn.Ct) : Prop where
  hq : B ≤ q
  blk : Blk W q #[.int .i64 (s : Int), vP, vG] 56
  row : Ow pv W B 85 vP Ds.length (Ds.map (fun d => d.q))
  giv : HOwn W B vG L.length L
  pgs : ∀ d ∈ Ds, d.ok W B s
  ap : Ds.Pairwise (fun d e => ∀ k, (k = d.q ∨ d.vB.ownBlock = some k ∨ d.vU.ownBlock = some k) → ¬ (k = e.q ∨ e.vB.ownBlock = some k ∨ e.vU.ownBlock = some k))
def DSet (q : Nat) (vP vG : Value) (Ds : List De) (k : Nat) : Prop := k = q ∨ vP.ownBlock = some k ∨ vG.ownBlock = some k ∨ ∃ d ∈ Ds, d.own k
section
variable {W W' : World} {B B' q s : Nat} {vP vG : Value} {Ds : List De} {L : List gn.Ct}
theorem Da.later (h : Da W B q s vP vG Ds L) (hb : Below W.heap.size W W') : Da W' B q s vP vG Ds L :=
  ⟨h.hq, h.blk.later hb, Ow.later h.row hb, h.giv.later hb, fun d hd => ⟨(h.pgs d hd).1.later hb, (h.pgs d hd).2⟩, h.ap⟩
theorem Da.base (h : Da W B q s vP vG Ds L) (hb : B' ≤ B) : Da W B' q s vP vG Ds L :=
  ⟨Nat.le_trans hb h.hq, h.blk, Ow.base h.row hb, h.giv.base hb, fun d hd => ⟨(h.pgs d hd).1.base hb, (h.pgs d hd).2⟩, h.ap⟩
theorem Da.lt (h : Da W B q s vP vG Ds L) : ∀ k, DSet q vP vG Ds k → B ≤ k ∧ k < W.heap.size := fun k hk => by
  rcases hk with rfl | e | e | ⟨d, hd, e⟩
  · exact ⟨h.hq, h.blk.lt⟩
  · exact Ow.lt h.row k e
  · exact h.giv.lt k e
  · have hl := (h.pgs d hd).1.lt
    rcases e with rfl | e | e | e
    · exact ⟨(h.pgs d hd).1.hq, hl.1⟩
    · exact hl.2.1 k e
    · exact hl.2.2.1 k e
    · exact hl.2.2.2 k e
end
/-- the document's arena, and the blocks that are its; its state is the arena's own (which page may have room first is not told) -/
def DA (K : Nat) (W : World) (B q s : Nat) (st : AS) (S : Nat → Prop) : Prop :=
  ∃ vP vG Ds L, Da W B q s vP vG Ds L ∧ Ds.map (fun d => d.P) = st.2.1 ∧ (∀ z, gn.rg z → gn.ofC L z = gn.ofC st.2.2 z) ∧ (∀ p ∈ L, gn.rg p.1) ∧ (L.length ≤ K ∧ K ≤ 100000) ∧ S = DSet q vP vG Ds
section
variable {W W' : World} {K B B' q s : Nat} {st : AS} {S : Nat → Prop}
theorem DA.later (h : DA K W B q s st S) (hb : Below W.heap.size W W') : DA K W' B q s st S := by
  obtain ⟨vP, vG, Ds, L, h1, h2⟩ := h
  exact ⟨vP, vG, Ds, L, h1.later hb, h2⟩
theorem DA.base (h : DA K W B q s st S) (hb : B' ≤ B) : DA K W B' q s st S := by
  obtain ⟨vP, vG, Ds, L, h1, h2⟩ := h
  exact ⟨vP, vG, Ds, L, h1.base hb, h2⟩
theorem DA.lt (h : DA K W B q s st S) : ∀ k, S k → B ≤ k ∧ k < W.heap.size := by
  obtain ⟨vP, vG, Ds, L, h1, _, _, _, _, rfl⟩ := h
  exact h1.lt
end

theorem Dx.keepS {W W' : World} {B q s : Nat} {Bs : List ByteArray} {Us : List Bool} {Bk : List Nat} {vB vU vK : Value} (h : Dx W B q s Bs Us Bk vB vU vK) (hz : W.heap.size ≤ W'.heap.size) (hk : ∀ k, (k = q ∨ vB.ownBlock = some k ∨ vU.ownBlock = some k ∨ vK.ownBlock = some k) → W'.heap[k]? = W.heap[k]?) : Dx W' B q s Bs Us Bk vB vU vK :=
  ⟨h.hq, (hk q (.inl rfl)).trans h.blk, ow_keep h.oB (fun k e => hk k (.inr (.inl e))), ow_keep h.oU (fun k e => hk k (.inr (.inr (.inl e)))), h.oK.keep hz (fun k e => hk k (.inr (.inr (.inr e))))⟩
theorem HOwn.keepS {W W' : World} {B n : Nat} {v : Value} {L : List gn.Ct} (h : HOwn W B v n L) (hk : ∀ k, v.ownBlock = some k → W'.heap[k]? = W.heap[k]?) : HOwn W' B v n L := by
  refine ⟨h.1, h.2.1, ?_⟩
  rcases h.2.2 with h1 | ⟨g, cap, cur, rfl, hB, hg, r⟩
  · exact .inl h1
  · exact .inr ⟨g, cap, cur, rfl, hB, (hk g rfl).trans hg, r⟩
section
variable {W W' : World} {K B q s : Nat} {vP vG : Value} {Ds : List De} {L : List gn.Ct} {st : AS} {S R : Nat → Prop}
theorem Da.keepS (h : Da W B q s vP vG Ds L) (hz : W.heap.size ≤ W'.heap.size) (hk : ∀ k, DSet q vP vG Ds k → W'.heap[k]? = W.heap[k]?) : Da W' B q s vP vG Ds L :=
  ⟨h.hq, (hk q (.inl rfl)).trans h.blk, ow_keep h.row (fun k e => hk k (.inr (.inl e))), h.giv.keepS (fun k e => hk k (.inr (.inr (.inl e)))), fun d hd => ⟨(h.pgs d hd).1.keepS hz (fun k e => hk k (.inr (.inr (.inr ⟨d, hd, e⟩)))), (h.pgs d hd).2⟩, h.ap⟩
theorem Da.fr (h : Da W B q s vP vG Ds L) (hf : FrS W W' R) (hd : ∀ k, DSet q vP vG Ds k → ¬ R k) : Da W' B q s vP vG Ds L :=
  h.keepS hf.size (fun k hk => hf.block k (h.lt k hk).2 (hd k hk))
theorem DA.fr (h : DA K W B q s st S) (hf : FrS W W' R) (hd : ∀ k, S k → ¬ R k) : DA K W' B q s st S := by
  obtain ⟨vP, vG, Ds, L, h1, h2, h3, h4, h5, rfl⟩ := h
  exact ⟨vP, vG, Ds, L, h1.fr hf hd, h2, h3, h4, h5, rfl⟩
theorem DA.frBelow {w0 : World} {B0 : Nat} (h : DA K W B q s st S) (hf : FrS W W' S) (hb : Below B0 w0 W) (h0 : B0 ≤ B) (h1 : B0 ≤ W.heap.size) : Below B0 w0 W' :=
  hf.below hb h1 (fun i hi => Nat.le_trans h0 (h.lt i hi).1)
end
theorem built56 (s : Int) : Try.prog.built 56 [(0, .int .i64 s)] = some #[.int .i64 s, .slice none 0 0, .slice none 0 0] := by kernel_rfl
set_option maxRecDepth 100000 in
set_option maxHeartbeats 4000000 in
theorem dar_no (x : Int) (w : World) (hx : x < 2 ∨ 4096 < x) : Calls Try.prog 24 #[.int .i64 x] w fun e w' => e = .returned (.tuple #[.pointer none, .int .i64 1]) ∧ w = w' := by
  have HX := Lib.hid hx
  clear hx
  go_enter Try.func24, Try.ntmps24
  go_wp2_with fail
  refine (dnew_no x w HX.out).mono ?_
  rintro e w1 ⟨rfl, rfl⟩
  go_wp2
  go_ret2
  exact ⟨rfl, rfl⟩
def NewD (K s : Nat) (w : World) (e : Ending) (w' : World) : Prop := ∃ q S, e = .returned (.tuple #[.pointer (some ⟨q, 0, none⟩), .int .i64 0]) ∧ DA K w' w.heap.size q s (0, [], []) S ∧ Below w.heap.size w w'
set_option maxRecDepth 100000 in
set_option maxHeartbeats 4000000 in
theorem dar_new (K s : Nat) (hK : K ≤ 100000) (w : World) (h1 : 2 ≤ s) (h2 : s ≤ 4096) : Calls Try.prog 24 #[.int .i64 (s : Int)] w (NewD K s w) := by
  go_enter Try.func24, Try.ntmps24
  go_wp2_with fail
  refine (dnew_any s w h1 h2).mono ?_
  rintro e w1 ⟨rfl, _, hb⟩
  have HB := Lib.hid hb
  clear hb
  have hbt := built56 (s : Int)
  have HB2 : Hid (Below w1.heap.size w1 (w1.alloc (.cells #[.int .i64 (s : Int), .slice none 0 0, .slice none 0 0] 56))) := (Below.refl _ _).alloc (Nat.le_refl _) _
  have HO : Hid (DA K (w1.alloc (.cells #[.int .i64 (s : Int), .slice none 0 0, .slice none 0 0] 56)) w1.heap.size w1.heap.size s (0, [], []) (DSet w1.heap.size (.slice none 0 0) (.slice none 0 0) [])) :=
    ⟨.slice none 0 0, .slice none 0 0, [], [], ⟨Nat.le_refl _, Blk.new _ _ _, Ow.none _ _ _, HOwn.none _ _, (fun d hd => by cases hd), List.Pairwise.nil⟩, rfl, (fun _ _ => rfl), (fun p hp => by cases hp), ⟨Nat.zero_le _, hK⟩, rfl⟩
  go_wp2_with (first
    | (refine wpl_build rfl 56 _ rfl _ hbt ?_)
    | fail)
  go_ret2
  exact ⟨_, _, rfl, HO.out.base HB.out.size, stepB HB.out HB2.out⟩
end Go.Proofs.Ytbnbhhmgfogjeaa
