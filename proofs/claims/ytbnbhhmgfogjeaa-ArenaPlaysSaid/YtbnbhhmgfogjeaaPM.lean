/- Both arenas, and their copies, side by side. -/
import Derived.Test.YtbnbhhmgfogjeaaPL
import Derived.Test.YtbnbhhmgfogjeaaGW
namespace Go.Proofs.Ytbnbhhmgfogjeaa
open Go.ChangeShapes Go.WideShapes Go.ChangeAt Go.RowKit Go.Maps
set_option linter.unusedVariables false
set_option linter.unusedSimpArgs false

structure LI (s : Nat) (st : AS) (k : Nat) : Prop where
  lf : ∀ i, i < st.1 → fullP s (st.2.1.getD i newP) = true
  len : st.2.2.length ≤ k
theorem getD_set_ne {L : List PS} {i j : Nat} {P : PS} (h : i ≠ j) : (L.set j P).getD i newP = L.getD i newP := by
  rw [List.getD_eq_getElem?_getD, List.getElem?_set_ne (Ne.symm h), List.getD_eq_getElem?_getD]
theorem getD_set_eq {L : List PS} {i : Nat} {P : PS} (h : i < L.length) : (L.set i P).getD i newP = P := by
  rw [List.getD_eq_getElem?_getD, List.getElem?_set_self h]; rfl
section
variable {s k : Nat} {st : AS}
theorem LI.full (h : LI s st k) (hu : Pu s st) : ∀ i, i < lowL s st.1 st.2.1 → fullP s (st.2.1.getD i newP) = true := fun i hi => by
  by_cases h1 : i < st.1
  · exact h.lf i h1
  · obtain ⟨P, hP, hf⟩ := (lowL_is s st.2.1 _ st.1 rfl hu.2.2.1).1 i (by omega) hi
    rw [getD_of hP]; exact hf
theorem LI.al (h : LI s st k) (hu : Pu s st) : LI s (alA s st).1 (k + 1) := by
  have hf := h.full hu
  have hle := lowL_le (s := s) hu.2.2.1
  have hlen := h.len
  unfold alA
  split
  · refine ⟨fun i hi => ?_, ?_⟩
    · have hi2 : i < lowL s st.1 st.2.1 := hi
      show fullP s ((st.2.1.set _ _).getD i newP) = true
      rw [getD_set_ne (by omega)]; exact hf i hi2
    · have := gn.len_put st.2.2 (zOf (lowL s st.1 st.2.1) (nextO s (st.2.1.getD (lowL s st.1 st.2.1) newP))) ((gn.ofC st.2.2 (zOf (lowL s st.1 st.2.1) (nextO s (st.2.1.getD (lowL s st.1 st.2.1) newP))) + 1) % 4294967296)
      show (gn.putC _ _ _).length ≤ _
      omega
  · split
    · exact ⟨hf, Nat.le_succ_of_le hlen⟩
    · refine ⟨fun i hi => ?_, ?_⟩
      · have hi2 : i < lowL s st.1 st.2.1 := hi
        show fullP s (((st.2.1 ++ [newP]).set _ _).getD i newP) = true
        rw [getD_set_ne (by omega), List.getD_eq_getElem?_getD, List.getElem?_append_left (by omega), ← List.getD_eq_getElem?_getD]; exact hf i hi2
      · show (gn.putC _ _ _).length ≤ _
        exact Nat.le_trans (gn.len_put _ _ _) (by omega)
theorem LI.fr {x : Int} (h : LI s st k) : LI s (frA x st) k := by
  unfold frA
  split
  · refine ⟨fun i hi => ?_, h.len⟩
    have hi2 : i < min st.1 (hP x) := hi
    show fullP s ((st.2.1.set _ _).getD i newP) = true
    rw [getD_set_ne (by omega)]; exact h.lf i (by omega)
  · exact h
theorem LI.wr {x : Int} {T : ByteArray} (h : LI s st k) : LI s (wrA s x T st) k := by
  unfold wrA
  split
  · rename_i hi
    have hp := (is_parts hi).1
    refine ⟨fun i h1 => ?_, h.len⟩
    have h2 : i < st.1 := h1
    show fullP s ((st.2.1.set _ _).getD i newP) = true
    by_cases e : i = hP x
    · subst e
      rw [getD_set_eq hp]
      have := h.lf _ h2
      unfold wrS
      split <;> exact this
    · rw [getD_set_ne e]; exact h.lf i h2
  · exact h
theorem LI.mono {k' : Nat} (h : LI s st k) (hk : k ≤ k') : LI s st k' := ⟨h.lf, Nat.le_trans h.len hk⟩
end
section
variable {W W' : World} {K K' B B' a q s : Nat} {st st' : AS} {S S' R : Nat → Prop}
theorem DA.tags (h : DA K W B q s st S) : ∀ k, S k → ∃ c t, W.heap[k]? = some (.cells c t (0, 0)) ∧ (t = 56 ∨ t = 85 ∨ t = 93 ∨ t = 107 ∨ t = 9 ∨ t = 4 ∨ t = 3) := fun k hk => by
  obtain ⟨vP, vG, Ds, L, h1, _, _, _, _, rfl⟩ := h
  rcases hk with rfl | e | e | ⟨d, hd, e⟩
  · exact ⟨_, 56, h1.blk, by simp⟩
  · obtain ⟨c, hc⟩ := Ow.tag h1.row k e; exact ⟨c, 85, hc, by simp⟩
  · obtain ⟨c, hc⟩ := h1.giv.tag k e; exact ⟨c, 93, hc, by simp⟩
  · have hx := (h1.pgs d hd).1
    rcases e with rfl | e | e | e
    · exact ⟨_, 107, hx.blk, by simp⟩
    · obtain ⟨c, hc⟩ := Ow.tag hx.oB k e; exact ⟨c, 9, hc, by simp⟩
    · obtain ⟨c, hc⟩ := Ow.tag hx.oU k e; exact ⟨c, 4, hc, by simp⟩
    · obtain ⟨_, c, hc⟩ := hx.oK.tg k e; exact ⟨c, 3, hc, by simp⟩
theorem ad_apart (hA : AR W B a s st S) (hD : DA K W B' q s st' S') : ∀ k, S' k → ¬ S k := fun k hk => by
  obtain ⟨c, t, hc, ht⟩ := hD.tags k hk
  exact hA.not hc (by rcases ht with h | h | h | h | h | h | h <;> subst h <;> decide)
theorem DA.ow {n : Nat} {v : Value} {xs : List Int} (h : DA K W B q s st S) (hf : FrS W W' S) (o : Ow hv W B' 24 v n xs) : Ow hv W' B' 24 v n xs :=
  ow_keep o (fun k ek => by
    obtain ⟨c, hc⟩ := Ow.tag o k ek
    refine hf.block k (Ow.lt o k ek).2 (fun hk => ?_)
    obtain ⟨c2, t2, hc2, ht⟩ := h.tags k hk
    rw [hc] at hc2; cases hc2
    rcases ht with h | h | h | h | h | h | h <;> exact absurd h (by decide))
theorem DA.mono (h : DA K W B q s st S) (hk : K ≤ K') (h2 : K' ≤ 100000) : DA K' W B q s st S := by
  obtain ⟨vP, vG, Ds, L, h1, h3, h4, h5, h6, h7⟩ := h
  exact ⟨vP, vG, Ds, L, h1, h3, h4, h5, ⟨Nat.le_trans h6.1 hk, h2⟩, h7⟩
end
/-- both arenas, what was told, and the copies, behind what the law did -/
structure TW (w W : World) (a q s : Nat) (st1 st2 : AS) (K : Nat) (vU : Value) (U : List Int) (ac qc : Nat) (st0 : AS) : Prop where
  ex : ∃ S1 S2 S3 S4 K0, AR W w.heap.size a s st1 S1 ∧ DA K W w.heap.size q s st2 S2 ∧ AR W w.heap.size ac s st0 S3 ∧ DA K0 W w.heap.size qc s st0 S4 ∧ (∀ k, S3 k → ¬ S1 k) ∧ (∀ k, S4 k → ¬ S2 k)
  ow : Ow hv W w.heap.size 24 vU U.length U
  hb : Below w.heap.size w W
section
variable {w W W' : World} {a q s : Nat} {st1 st2 st0 st' : AS} {K : Nat} {vU : Value} {U : List Int} {ac qc : Nat}
theorem TW.later (h : TW w W a q s st1 st2 K vU U ac qc st0) (hb : Below W.heap.size W W') : TW w W' a q s st1 st2 K vU U ac qc st0 := by
  obtain ⟨S1, S2, S3, S4, K0, h1, h2, h3, h4, h5, h6⟩ := h.ex
  exact ⟨⟨S1, S2, S3, S4, K0, h1.later hb, h2.later hb, h3.later hb, h4.later hb, h5, h6⟩, Ow.later h.ow hb, stepB h.hb hb⟩
theorem TW.mono {K' : Nat} (h : TW w W a q s st1 st2 K vU U ac qc st0) (hk : K ≤ K') (h2 : K' ≤ 100000) : TW w W a q s st1 st2 K' vU U ac qc st0 := by
  obtain ⟨S1, S2, S3, S4, K0, h1, h2', h3⟩ := h.ex
  exact ⟨⟨S1, S2, S3, S4, K0, h1, h2'.mono hk h2, h3⟩, h.ow, h.hb⟩
theorem twA {S1 S2 S3 S4 S' : Nat → Prop} {K0 : Nat} (h1 : AR W w.heap.size a s st1 S1) (h2 : DA K W w.heap.size q s st2 S2) (h3 : AR W w.heap.size ac s st0 S3) (h4 : DA K0 W w.heap.size qc s st0 S4) (h5 : ∀ k, S3 k → ¬ S1 k) (h6 : ∀ k, S4 k → ¬ S2 k) (ho : Ow hv W w.heap.size 24 vU U.length U) (hb : Below w.heap.size w W)
    (k1 : AR W' w.heap.size a s st' S') (k2 : ∀ k, S' k → S1 k ∨ W.heap.size ≤ k) (k3 : FrS W W' S1) : TW w W' a q s st' st2 K vU U ac qc st0 := by
  refine ⟨⟨S', S2, S3, S4, K0, k1, h2.fr k3 (ad_apart h1 h2), h3.fr k3 h5, h4.fr k3 (ad_apart h1 h4), fun k hk h' => ?_, h6⟩, h1.ow k3 ho ⟨by decide, by decide, by decide⟩, h1.frBelow k3 hb (Nat.le_refl _) hb.size⟩
  rcases k2 k h' with e | e
  · exact h5 k hk e
  · have := (h3.lt k hk).2; omega
theorem twD {S1 S2 S3 S4 S' : Nat → Prop} {K0 K' : Nat} (h1 : AR W w.heap.size a s st1 S1) (h2 : DA K W w.heap.size q s st2 S2) (h3 : AR W w.heap.size ac s st0 S3) (h4 : DA K0 W w.heap.size qc s st0 S4) (h5 : ∀ k, S3 k → ¬ S1 k) (h6 : ∀ k, S4 k → ¬ S2 k) (ho : Ow hv W w.heap.size 24 vU U.length U) (hb : Below w.heap.size w W)
    (k1 : DA K' W' w.heap.size q s st' S') (k2 : ∀ k, S' k → S2 k ∨ W.heap.size ≤ k) (k3 : FrS W W' S2) : TW w W' a q s st1 st' K' vU U ac qc st0 := by
  refine ⟨⟨S1, S', S3, S4, K0, h1.fr k3 (fun k hk e => ad_apart h1 h2 k e hk), k1, h3.fr k3 (fun k hk e => ad_apart h3 h2 k e hk), h4.fr k3 h6, h5, fun k hk h' => ?_⟩, h2.ow k3 ho, h2.frBelow k3 hb (Nat.le_refl _) hb.size⟩
  rcases k2 k h' with e | e
  · exact h6 k hk e
  · have := (h4.lt k hk).2; omega
theorem TW.pure (h : TW w W a q s st1 st2 K vU U ac qc st0) : Pu s st1 ∧ Pu s st0 := by
  obtain ⟨S1, S2, S3, S4, K0, h1, h2, h3, h4, _⟩ := h.ex
  exact ⟨h1.pure, h3.pure⟩
theorem TW.app {n : Nat} {v' : Value} {U' : List Int} (h : TW w W a q s st1 st2 K vU U ac qc st0) (hg : W.grownBy W' vU.ownBlock) (hn : n = U'.length) (ho : Ow hv W' w.heap.size 24 v' n U') : TW w W' a q s st1 st2 K v' U' ac qc st0 := by
  subst hn
  obtain ⟨S1, S2, S3, S4, K0, h1, h2, h3, h4, h5, h6⟩ := h.ex
  have hd : ∀ {K q st} {S : Nat → Prop}, DA K W w.heap.size q s st S → DA K W' w.heap.size q s st S := fun {K q st S} h2 => h2.fr (R := fun k => vU.ownBlock = some k) (FrS.of_grown hg (fun k e => e)) (fun k hk e => by
    obtain ⟨c, hc⟩ := Ow.tag h.ow k e
    obtain ⟨c2, t2, hc2, ht⟩ := h2.tags k hk
    rw [hc] at hc2; cases hc2
    rcases ht with h | h | h | h | h | h | h <;> exact absurd h (by decide))
  exact ⟨⟨S1, S2, S3, S4, K0, h1.grown h.ow ⟨by decide, by decide, by decide⟩ hg, hd h2, h3.grown h.ow ⟨by decide, by decide, by decide⟩ hg, hd h4, h5, h6⟩, ho, ow_below h.ow h.hb h.hb.size hg⟩
/-- what turns one of them, and what is asked of them -/
theorem TW.alA (h : TW w W a q s st1 st2 K vU U ac qc st0) (hs2 : 2 ≤ s) (hs4 : s ≤ 4096) (hG : st1.2.2.length < 1000000000) : Calls Try.prog 10 #[.pointer (some ⟨a, 0, none⟩)] W fun e W' => e = .returned (.tuple #[.int .u64 (Go.Proofs.Ytbnbhhmgfogjeaa.alA s st1).2.1, .int .i64 (Go.Proofs.Ytbnbhhmgfogjeaa.alA s st1).2.2]) ∧ TW w W' a q s (Prod.fst (Go.Proofs.Ytbnbhhmgfogjeaa.alA s st1)) st2 K vU U ac qc st0 := by
  obtain ⟨S1, S2, S3, S4, K0, h1, h2, h3, h4, h5, h6⟩ := h.ex
  refine (alloc_any _ a s st1 S1 W h1 hs2 hs4 hG).mono ?_
  rintro e W' ⟨rfl, S', k1, k2, k3⟩
  exact ⟨rfl, twA h1 h2 h3 h4 h5 h6 h.ow h.hb k1 k2 k3⟩
theorem TW.alD (h : TW w W a q s st1 st2 K vU U ac qc st0) (hu : Pu s st2) (hl : LI s st2 K) (hs2 : 2 ≤ s) (hs4 : s ≤ 4096) (hK : K + 1 ≤ 100000) : Calls Try.prog 28 #[.pointer (some ⟨q, 0, none⟩)] W fun e W' => e = .returned (.tuple #[.int .u64 (Go.Proofs.Ytbnbhhmgfogjeaa.alA s st2).2.1, .int .i64 (Go.Proofs.Ytbnbhhmgfogjeaa.alA s st2).2.2]) ∧ TW w W' a q s st1 (Prod.fst (Go.Proofs.Ytbnbhhmgfogjeaa.alA s st2)) (K + 1) vU U ac qc st0 := by
  obtain ⟨S1, S2, S3, S4, K0, h1, h2, h3, h4, h5, h6⟩ := h.ex
  refine (daalloc_any K _ q s st2 S2 W h2 hu hl.lf h.hb.size hs2 hs4 hK).mono ?_
  rintro e W' ⟨rfl, S', k1, k2, k3⟩
  exact ⟨rfl, twD h1 h2 h3 h4 h5 h6 h.ow h.hb k1 k2 k3⟩
theorem TW.frA (h : TW w W a q s st1 st2 K vU U ac qc st0) {x : Int} (x0 : 0 ≤ x) (x1 : x ≤ 18446744073709551615) (hs4 : s ≤ 4096) : Calls Try.prog 13 #[.pointer (some ⟨a, 0, none⟩), .int .u64 x] W fun e W' => e = .returned (.int .i64 (frAE x st1)) ∧ TW w W' a q s (Go.Proofs.Ytbnbhhmgfogjeaa.frA x st1) st2 K vU U ac qc st0 := by
  obtain ⟨S1, S2, S3, S4, K0, h1, h2, h3, h4, h5, h6⟩ := h.ex
  refine (arfree_any _ a s st1 S1 W h1 x x0 x1 hs4).mono ?_
  rintro e W' ⟨rfl, S', k1, k2, k3⟩
  exact ⟨rfl, twA h1 h2 h3 h4 h5 h6 h.ow h.hb k1 k2 k3⟩
theorem TW.frD (h : TW w W a q s st1 st2 K vU U ac qc st0) (hu : Pu s st2) {x : Int} (x0 : 0 ≤ x) (x1 : x ≤ 18446744073709551615) (hs4 : s ≤ 4096) : Calls Try.prog 29 #[.pointer (some ⟨q, 0, none⟩), .int .u64 x] W fun e W' => e = .returned (.int .i64 (frAE x st2)) ∧ TW w W' a q s st1 (Go.Proofs.Ytbnbhhmgfogjeaa.frA x st2) K vU U ac qc st0 := by
  obtain ⟨S1, S2, S3, S4, K0, h1, h2, h3, h4, h5, h6⟩ := h.ex
  refine (dafree_any K _ q s st2 S2 W h2 hu h.hb.size x x0 x1 hs4).mono ?_
  rintro e W' ⟨rfl, S', k1, k2, k3⟩
  exact ⟨rfl, twD h1 h2 h3 h4 h5 h6 h.ow h.hb k1 k2 k3⟩
theorem TW.wrA (h : TW w W a q s st1 st2 K vU U ac qc st0) {x : Int} (x0 : 0 ≤ x) (x1 : x ≤ 18446744073709551615) (T : ByteArray) (hs4 : s ≤ 4096) : Calls Try.prog 14 #[.pointer (some ⟨a, 0, none⟩), .int .u64 x, .string T] W fun e W' => e = .returned (.int .i64 (wrAE s x T st1)) ∧ TW w W' a q s (Go.Proofs.Ytbnbhhmgfogjeaa.wrA s x T st1) st2 K vU U ac qc st0 := by
  obtain ⟨S1, S2, S3, S4, K0, h1, h2, h3, h4, h5, h6⟩ := h.ex
  refine (arwrite_any _ a s st1 S1 W h1 x x0 x1 T hs4).mono ?_
  rintro e W' ⟨rfl, S', k1, k2, k3⟩
  exact ⟨rfl, twA h1 h2 h3 h4 h5 h6 h.ow h.hb k1 k2 k3⟩
theorem TW.wrD (h : TW w W a q s st1 st2 K vU U ac qc st0) (hu : Pu s st2) {x : Int} (x0 : 0 ≤ x) (x1 : x ≤ 18446744073709551615) (T : ByteArray) (hs4 : s ≤ 4096) : Calls Try.prog 30 #[.pointer (some ⟨q, 0, none⟩), .int .u64 x, .string T] W fun e W' => e = .returned (.int .i64 (wrAE s x T st2)) ∧ TW w W' a q s st1 (Go.Proofs.Ytbnbhhmgfogjeaa.wrA s x T st2) K vU U ac qc st0 := by
  obtain ⟨S1, S2, S3, S4, K0, h1, h2, h3, h4, h5, h6⟩ := h.ex
  refine (dawrite_any K _ q s st2 S2 W h2 hu h.hb.size x x0 x1 hs4 T).mono ?_
  rintro e W' ⟨rfl, S', k1, k2, k3⟩
  exact ⟨rfl, twD h1 h2 h3 h4 h5 h6 h.ow h.hb k1 k2 k3⟩
theorem TW.isA1 (h : TW w W a q s st1 st2 K vU U ac qc st0) {x : Int} (x0 : 0 ≤ x) (x1 : x ≤ 18446744073709551615) : Calls Try.prog 15 #[.pointer (some ⟨a, 0, none⟩), .int .u64 x] W fun e W' => e = .returned (.bool (Go.Proofs.Ytbnbhhmgfogjeaa.isA st1 x)) ∧ Below W.heap.size W W' := by
  obtain ⟨S1, S2, S3, S4, K0, h1, h2, h3, h4, h5, h6⟩ := h.ex
  refine (aris_any _ a s st1 S1 W h1 x x0 x1).mono ?_
  rintro e W' ⟨rfl, hb⟩
  exact ⟨rfl, hb⟩
theorem TW.isD1 (h : TW w W a q s st1 st2 K vU U ac qc st0) (hu : Pu s st2) {x : Int} (x0 : 0 ≤ x) (x1 : x ≤ 18446744073709551615) : Calls Try.prog 27 #[.pointer (some ⟨q, 0, none⟩), .int .u64 x] W fun e W' => e = .returned (.bool (Go.Proofs.Ytbnbhhmgfogjeaa.isA st2 x)) ∧ Below W.heap.size W W' := by
  obtain ⟨S1, S2, S3, S4, K0, h1, h2, h3, h4, h5, h6⟩ := h.ex
  refine (dais_any K _ q s st2 S2 W h2 hu x x0 x1).mono ?_
  rintro e W' ⟨rfl, rfl⟩
  exact ⟨rfl, Below.refl _ _⟩
theorem TW.isA0 (h : TW w W a q s st1 st2 K vU U ac qc st0) {x : Int} (x0 : 0 ≤ x) (x1 : x ≤ 18446744073709551615) : Calls Try.prog 15 #[.pointer (some ⟨ac, 0, none⟩), .int .u64 x] W fun e W' => e = .returned (.bool (Go.Proofs.Ytbnbhhmgfogjeaa.isA st0 x)) ∧ Below W.heap.size W W' := by
  obtain ⟨S1, S2, S3, S4, K0, h1, h2, h3, h4, h5, h6⟩ := h.ex
  refine (aris_any _ ac s st0 S3 W h3 x x0 x1).mono ?_
  rintro e W' ⟨rfl, hb⟩
  exact ⟨rfl, hb⟩
theorem TW.isD0 (h : TW w W a q s st1 st2 K vU U ac qc st0) {x : Int} (x0 : 0 ≤ x) (x1 : x ≤ 18446744073709551615) : Calls Try.prog 27 #[.pointer (some ⟨qc, 0, none⟩), .int .u64 x] W fun e W' => e = .returned (.bool (Go.Proofs.Ytbnbhhmgfogjeaa.isA st0 x)) ∧ Below W.heap.size W W' := by
  obtain ⟨S1, S2, S3, S4, K0, h1, h2, h3, h4, h5, h6⟩ := h.ex
  refine (dais_any K0 _ qc s st0 S4 W h4 h.pure.2 x x0 x1).mono ?_
  rintro e W' ⟨rfl, rfl⟩
  exact ⟨rfl, Below.refl _ _⟩
theorem TW.rdA1 (h : TW w W a q s st1 st2 K vU U ac qc st0) {x : Int} (x0 : 0 ≤ x) (x1 : x ≤ 18446744073709551615) : Calls Try.prog 11 #[.pointer (some ⟨a, 0, none⟩), .int .u64 x] W fun e W' => e = .returned (.tuple #[.string (rdA s x st1), .int .i64 (rdAE x st1)]) ∧ Below W.heap.size W W' := by
  obtain ⟨S1, S2, S3, S4, K0, h1, h2, h3, h4, h5, h6⟩ := h.ex
  refine (arread_any _ a s st1 S1 W h1 x x0 x1).mono ?_
  rintro e W' ⟨rfl, hb⟩
  exact ⟨rfl, hb⟩
theorem TW.rdD1 (h : TW w W a q s st1 st2 K vU U ac qc st0) (hu : Pu s st2) {x : Int} (x0 : 0 ≤ x) (x1 : x ≤ 18446744073709551615) : Calls Try.prog 31 #[.pointer (some ⟨q, 0, none⟩), .int .u64 x] W fun e W' => e = .returned (.tuple #[.string (rdA s x st2), .int .i64 (rdAE x st2)]) ∧ Below W.heap.size W W' := by
  obtain ⟨S1, S2, S3, S4, K0, h1, h2, h3, h4, h5, h6⟩ := h.ex
  refine (daread_any K _ q s st2 S2 W h2 hu x x0 x1).mono ?_
  rintro e W' ⟨rfl, rfl⟩
  exact ⟨rfl, Below.refl _ _⟩
theorem TW.usA1 (h : TW w W a q s st1 st2 K vU U ac qc st0) : Calls Try.prog 16 #[.pointer (some ⟨a, 0, none⟩)] W fun e W' => e = .returned (.int .i64 (usA st1 : Nat)) ∧ Below W.heap.size W W' := by
  obtain ⟨S1, S2, S3, S4, K0, h1, h2, h3, h4, h5, h6⟩ := h.ex
  refine (arused_any _ a s st1 S1 W h1).mono ?_
  rintro e W' ⟨rfl, rfl⟩
  exact ⟨rfl, Below.refl _ _⟩
theorem TW.usD1 (h : TW w W a q s st1 st2 K vU U ac qc st0) (hu : Pu s st2) : Calls Try.prog 32 #[.pointer (some ⟨q, 0, none⟩)] W fun e W' => e = .returned (.int .i64 (usA st2 : Nat)) ∧ Below W.heap.size W W' := by
  obtain ⟨S1, S2, S3, S4, K0, h1, h2, h3, h4, h5, h6⟩ := h.ex
  refine (daused_any K _ q s st2 S2 W h2 hu).mono ?_
  rintro e W' ⟨rfl, rfl⟩
  exact ⟨rfl, Below.refl _ _⟩
theorem TW.usA0 (h : TW w W a q s st1 st2 K vU U ac qc st0) : Calls Try.prog 16 #[.pointer (some ⟨ac, 0, none⟩)] W fun e W' => e = .returned (.int .i64 (usA st0 : Nat)) ∧ Below W.heap.size W W' := by
  obtain ⟨S1, S2, S3, S4, K0, h1, h2, h3, h4, h5, h6⟩ := h.ex
  refine (arused_any _ ac s st0 S3 W h3).mono ?_
  rintro e W' ⟨rfl, rfl⟩
  exact ⟨rfl, Below.refl _ _⟩
theorem TW.usD0 (h : TW w W a q s st1 st2 K vU U ac qc st0) : Calls Try.prog 32 #[.pointer (some ⟨qc, 0, none⟩)] W fun e W' => e = .returned (.int .i64 (usA st0 : Nat)) ∧ Below W.heap.size W W' := by
  obtain ⟨S1, S2, S3, S4, K0, h1, h2, h3, h4, h5, h6⟩ := h.ex
  refine (daused_any K0 _ qc s st0 S4 W h4 h.pure.2).mono ?_
  rintro e W' ⟨rfl, rfl⟩
  exact ⟨rfl, Below.refl _ _⟩
theorem TW.pgA1 (h : TW w W a q s st1 st2 K vU U ac qc st0) : Calls Try.prog 17 #[.pointer (some ⟨a, 0, none⟩)] W fun e W' => e = .returned (.int .i64 (st1.2.1.length : Nat)) ∧ Below W.heap.size W W' := by
  obtain ⟨S1, S2, S3, S4, K0, h1, h2, h3, h4, h5, h6⟩ := h.ex
  refine (arpages_any _ a s st1 S1 W h1).mono ?_
  rintro e W' ⟨rfl, rfl⟩
  exact ⟨rfl, Below.refl _ _⟩
theorem TW.slA1 (h : TW w W a q s st1 st2 K vU U ac qc st0) : Calls Try.prog 18 #[.pointer (some ⟨a, 0, none⟩)] W fun e W' => e = .returned (.int .i64 (s : Int)) ∧ Below W.heap.size W W' := by
  obtain ⟨S1, S2, S3, S4, K0, h1, h2, h3, h4, h5, h6⟩ := h.ex
  refine (arslot_any _ a s st1 S1 W h1).mono ?_
  rintro e W' ⟨rfl, rfl⟩
  exact ⟨rfl, Below.refl _ _⟩
theorem TW.pgD (h : TW w W a q s st1 st2 K vU U ac qc st0) : ∃ A c, ∀ W', Below W.heap.size W W' → W'.cell? ⟨q, 1, none⟩ = some (.slice A st2.2.1.length c) := by
  obtain ⟨S1, S2, S3, S4, K0, h1, ⟨vP, vG, Ds, L, h2, hm, _⟩, _⟩ := h.ex
  have hl : st2.2.1.length = Ds.length := by rw [← hm, List.length_map]
  obtain ⟨A, c, rfl, _⟩ := Ow.sl h2.row
  rw [hl]
  exact ⟨A, c, fun W' hb => (h2.later hb).blk.cell 1⟩
end
end Go.Proofs.Ytbnbhhmgfogjeaa
