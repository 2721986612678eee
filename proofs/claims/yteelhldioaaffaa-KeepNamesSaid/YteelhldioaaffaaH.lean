/- The document's Kept and Seen. -/
import Derived.Test.YteelhldioaaffaaG
import Derived.Laws.AppendOwn
namespace Go.Proofs.Yteelhldioaaffaa
open Go.ChangeShapes Go.WideShapes Go.ChangeAt Go.RowKit
set_option linter.unusedVariables false
theorem nkept_bounds (vs : List Ver) (f : Int) : upto vs f ≤ nkept vs f ∧ nkept vs f ≤ upto vs f + 1 := by
  unfold nkept; split <;> omega
theorem nkept_tomb {vs : List Ver} {f : Int} (h : (vs.getD (upto vs f) ver0).tomb = true) : nkept vs f = upto vs f := by
  unfold nkept; rw [if_neg (fun e => by rw [h] at e; exact absurd e.2 (by decide))]
theorem nkept_live {vs : List Ver} {f : Int} (hl : upto vs f < vs.length) (h : (vs.getD (upto vs f) ver0).tomb = false) : nkept vs f = upto vs f + 1 := by
  unfold nkept; rw [if_pos ⟨hl, h⟩]
theorem take_snoc (vs : List Ver) (k : Nat) (h : k < vs.length) : vs.take (k + 1) = vs.take k ++ [vs.getD k ver0] := by
  rw [List.take_add_one, List.getD_eq_getElem?_getD, List.getElem?_eq_getElem h]; rfl
theorem four_cells (w : World) (d : Ver) : ∀ i u, (vsv [d])[i]? = some u → (w.alloc (.cells #[.int .i64 d.w, .int .i64 d.ts, .bool d.tomb, .string d.val] 27)).cell? ((⟨w.heap.size, 0, none⟩ : Addr).add i) = some u := by
  have hb := Blk.new w (vcells d) 27
  refine vers_cells (n := 1) (off := 0) (W := w.alloc (.cells (vcells d) 27)) rfl (fun j hj => ?_)
  obtain rfl : j = 0 := by omega
  exact ⟨hb.cell 0, hb.cell 1, hb.cell 2, hb.cell 3⟩
set_option maxRecDepth 100000 in
set_option maxHeartbeats 2000000 in
theorem rKept_any (A : Option Addr) (n c : Nat) (f : Int) (vs : List Ver) (w : World) (hn : n ≤ 1000000) (hs : Vers w.heap.size w A n vs) :
    Calls Try.prog 18 #[.slice A n c, .int .i64 f] w (CloneEnd (kept vs f) (nkept vs f) w) := by
  have Hs := Lib.hid hs
  have hbd := nkept_bounds vs f
  have hnl := nkept_le vs f
  have hul := upto_le vs f
  rw [hs.1] at hnl hul
  have U1 := Lib.hid (fun (W : World) (h : Vers W.heap.size W A n vs) => upto_any A n c vs f W h hn)
  have Htm : Hid ((vs.getD (upto vs f) ver0).tomb = true → nkept vs f = upto vs f) := nkept_tomb
  have Hlv : Hid (upto vs f < n → (vs.getD (upto vs f) ver0).tomb = false → nkept vs f = upto vs f + 1) := fun h => nkept_live (by rw [hs.1]; exact h)
  have HK : Hid (kept vs f = vs.take (nkept vs f)) := rfl
  clear hs
  rw [HK.out]
  obtain ⟨K, hK⟩ : ∃ K, upto vs f = K := ⟨_, rfl⟩
  obtain ⟨nk, hnk⟩ : ∃ nk, nkept vs f = nk := ⟨_, rfl⟩
  rw [hK] at Htm Hlv U1 hbd hul
  rw [hnk] at Htm Hlv hbd hnl ⊢
  clear hK hnk HK
  obtain ⟨i0, hi, hz0, hz1, hz2⟩ := info_parts v27info
  go_enter Try.func18, Try.ntmps18
  go_wp2_with fail
  refine (U1.out _ Hs.out).mono ?_
  rintro e _ ⟨rfl, rfl⟩
  go_wp2_with fail
  go_loopw [6, 7] (fun v i wr => ∃ k m : Nat, k ≤ n ∧ k ≤ K + 1 ∧ m ≤ k ∧ (k ≤ K → m = k) ∧ m ≤ nk ∧ (K < k → m = nk) ∧ i = .int .i64 k ∧ wr.ownsRow w.heap.size 27 4 v m (vsv (vs.take m)) ∧ Below w.heap.size w wr) (fun _ i _ => n - (intOf i).toNat)
  case atStart => exact ⟨0, 0, by omega, by omega, by omega, by omega, by omega, by omega, rfl, World.ownsRow_nil _ _ _ _, Below.refl _ _⟩
  case round =>
    obtain ⟨k, m, hk, hkK, hmk, hme, hmn, hmf, rfl, hown, hb⟩ := hrel
    have Hb := Lib.hid hb
    clear hb
    have hsz := Hb.out.size
    by_cases hgo : k < n ∧ k ≤ K
    · obtain ⟨hlt, hle⟩ := hgo
      obtain rfl : m = k := hme hle
      obtain ⟨g, off, rfl, hg, hc⟩ := (Hs.out.below Hb.out).2 (by omega)
      have hck := hc m hlt
      have Hsn : Hid (vs.take (m + 1) = vs.take m ++ [vs.getD m ver0]) := take_snoc vs m (by rw [Hs.out.1]; exact hlt)
      have Htk : Hid (m = K → (vs.getD m ver0).tomb = true → nk = m) := fun e h => by subst e; exact Htm.out h
      have Hlk : Hid (m = K → (vs.getD m ver0).tomb = false → nk = m + 1) := fun e h => by subst e; exact Hlv.out hlt h
      obtain ⟨d, hd⟩ : ∃ d, vs.getD m ver0 = d := ⟨_, rfl⟩
      rw [hd] at hck Hsn Htk Hlk
      obtain ⟨P, hP⟩ : ∃ P, vs.take m = P := ⟨_, rfl⟩
      rw [hP] at hown Hsn
      have Hn : Hid (vsv P ++ vsv [d] = vsv (vs.take (m + 1))) := by show _ = _; rw [Hsn.out, vsv_app]
      have HP := Lib.hid hP
      clear hd hc hP Hsn
      have c0 := hck.c0
      have c1 := hck.c1
      have c2 := hck.c2
      have c3 := hck.c3
      clear hck
      have hx := index_run g off n c m (m : Int) rfl hlt
      by_cases hlK : m < K
      · have Hnk : Hid (m + 1 ≤ nk) := by show _ ≤ _; omega
        go_wp2_with (at_builtin; refine wpList_append_own _ rfl _ _ 24 rfl w.heap.size 27 i0 _ 4 40 Try.underlying24 hi hz0 hz1 hz2 rfl (by decide) _ m _ rfl (hown.alloc _) ⟨wr.heap.size, 0, none⟩ 1 1 (vsv [d]) rfl rfl (four_cells _ _) (vsv_one [d]) (by unfold maxLen; omega) (by omega) (by simp; omega) ?_; intro v' w3 hown' hgrow3 hnil3)
        rw [Hn.out] at hown'
        go_roundw
        case rel =>
          exact ⟨m + 1, m + 1, by omega, by omega, by omega, by omega, Hnk.out, by omega, by go_num, hown', (Hb.out.alloc hsz _).grown hgrow3 (by simp; omega) (fun j e => (World.ownsRow.lt hown j e).1)⟩
        case measure => simp [intOf]; omega
      · obtain rfl : m = K := by omega
        have c2x : wr.cell? ⟨g, off + m * 4 + 2, none⟩ = some (.bool d.tomb) := c2
        have Hfc : Hid (∀ i u, (vsv [d])[i]? = some u → (wr.alloc (.cells #[.int .i64 d.w, .int .i64 d.ts, .bool d.tomb, .string d.val] 27)).cell? ((⟨wr.heap.size, 0, none⟩ : Addr).add i) = some u) := four_cells wr d
        cases ht : d.tomb with
        | true =>
          have hnk := Htk.out rfl ht
          rw [ht] at c2 c2x
          have Hown := Lib.hid hown
          clear hown ht
          go_wp2
          go_roundw
          case rel => exact ⟨m + 1, m, by omega, by omega, by omega, by omega, by omega, by omega, by go_num, by rw [HP.out]; exact Hown.out, Hb.out⟩
          case measure => simp [intOf]; omega
        | false =>
          have hnk := Hlk.out rfl ht
          rw [ht] at c2 c2x Hfc
          clear ht
          go_wp2_with (at_builtin; refine wpList_append_own _ rfl _ _ 24 rfl w.heap.size 27 i0 _ 4 40 Try.underlying24 hi hz0 hz1 hz2 rfl (by decide) _ m _ rfl (hown.alloc _) ⟨wr.heap.size, 0, none⟩ 1 1 (vsv [d]) rfl rfl Hfc.out (vsv_one [d]) (by unfold maxLen; omega) (by omega) (by simp; omega) ?_; intro v' w3 hown' hgrow3 hnil3)
          rw [Hn.out] at hown'
          go_roundw
          case rel =>
            exact ⟨m + 1, m + 1, by omega, by omega, by omega, by omega, by omega, by omega, by go_num, hown', (Hb.out.alloc hsz _).grown hgrow3 (by simp; omega) (fun j e => (World.ownsRow.lt hown j e).1)⟩
          case measure => simp [intOf]; omega
    · obtain rfl : m = nk := by omega
      obtain ⟨A', c', e, hc', hst⟩ := own_vrow hown
      have He := Lib.hid e
      have Hst := Lib.hid hst
      clear hown e hst
      by_cases hlt : k < n
      · have hnle : K < k := by omega
        have h2 : ¬ (k ≤ K) := by omega
        clear hgo
        go_wp2
        go_ret
        rw [He.out]
        exact ⟨A', c', rfl, hc', Hst.out, Hb.out⟩
      · clear hgo
        go_wp2
        go_ret
        rw [He.out]
        exact ⟨A', c', rfl, hc', Hst.out, Hb.out⟩
end Go.Proofs.Yteelhldioaaffaa
