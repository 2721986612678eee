/-
Of whatever values, one behind the other, Back by their deltas tells each; no condition.
-/
import Derived.Test.YthghaagmpneemaaLF
import Derived.Test.YthghaagmpneemaaRD
import Derived.Deep.RegionHeld3
import Derived.ChangeMaps5
namespace Go.Proofs.Ythghaagmpneemaa.deltaChains
open Go.ChangeShapes Go.WideShapes Go.ChangeAt Go.RowKit Go.ChangeMaps
set_option linter.unusedVariables false

theorem own : ownKnob Try.prog.godebug = none := by kernel_rfl
theorem laidOut : laidOutB Try.prog = true := by kernel_rfl
theorem cells9 : Try.prog.cellsOf 9 = 1 := by kernel_rfl

set_option maxRecDepth 100000 in
set_option maxHeartbeats 4000000 in
theorem walk_in (A : Option Addr) (n c : Nat) (ss : List ByteArray) (w : World) (hs : Strs w.heap.size w A n ss) (hr : ∀ s ∈ ss, s.size ≤ reachBytes) (hn : n ≤ maxLen) :
    Calls Try.prog 7 #[.slice A n c] w fun e w' => e = .returned (.bool true) ∧ Below w.heap.size w w' := by
  have HL := Lib.hid (large_any A n c ss w hs hr hn)
  have Hs := Lib.hid hs
  have Hlen : Hid (ss.length = n) := hs.1
  clear hs hr
  unfold maxLen at hn
  by_cases z1 : 40 < n
  · go_enter Try.func7, Try.ntmps7
    go_wp2_with fail
    refine (awake_any _).mono ?_
    rintro e w1 ⟨rfl, hb⟩
    have H1 := Lib.hid hb
    clear hb
    go_wp2_with fail
    go_ret
    exact ⟨rfl, H1.out⟩
  by_cases z4 : largeB ss = true
  · have Hz := Lib.hid z4
    clear z4
    go_enter Try.func7, Try.ntmps7
    go_wp2_with fail
    refine (HL.out).mono ?_
    rintro e _ ⟨rfl, rfl⟩
    rw [Hz.out]
    go_wp2_with fail
    refine (awake_any _).mono ?_
    rintro e w1 ⟨rfl, hb⟩
    have H1 := Lib.hid hb
    clear hb
    go_wp2_with fail
    go_ret
    exact ⟨rfl, H1.out⟩
  have hz4 : largeB ss = false := by simpa using z4
  have Hz4 := Lib.hid hz4
  clear z4 hz4
  obtain ⟨i0, hi, hz0, hz1, hz2⟩ := info_parts s9info
  go_enter Try.func7, Try.ntmps7
  go_wp2_with fail
  refine (HL.out).mono ?_
  rintro e _ ⟨rfl, rfl⟩
  rw [Hz4.out]
  go_wp2_with fail
  refine (awake_any _).mono ?_
  rintro e w1 ⟨rfl, hb⟩
  have H1 := Lib.hid hb
  clear hb
  go_upto_block 0 with (fail)
  go_cut [3] (fun v wx => ∃ m A' c', m ≤ n ∧ (fits ss).length = m ∧ v = .slice A' m c' ∧ Strs wx.heap.size wx A' m (fits ss) ∧ Below w.heap.size w wx)
  case first =>
    go_wp2
    go_loopw [3, 5] (fun v i wr => ∃ k : Nat, k ≤ n ∧ i = .int .i64 k ∧ wr.ownsRow w.heap.size 9 1 v (fits (ss.take k)).length (sv (fits (ss.take k))) ∧ Below w.heap.size w wr) (fun _ i _ => n - (intOf i).toNat)
    case atStart => exact ⟨0, by omega, rfl, World.ownsRow_nil _ _ _ _, H1.out⟩
    case round =>
      obtain ⟨k, hk, rfl, hown, hb⟩ := hrel
      have Hb := Lib.hid hb
      clear hb
      by_cases hlt : k < n
      · obtain ⟨g, off, rfl, hg, hc⟩ := (Hs.out.below Hb.out).2 (by omega)
        have hck := hc k hlt
        have hft := fits_take ss k (by have := Hlen.out; omega)
        have hfl := fits_len ss k
        obtain ⟨d, hd⟩ : ∃ d, ss.getD k ⟨#[]⟩ = d := ⟨_, rfl⟩
        rw [hd] at hck hft
        clear hc hd
        have hsz := Hb.out.size
        by_cases hf : d.size ≤ 256
        · rw [if_pos hf] at hft
          have Hft := Lib.hid hft
          obtain ⟨F, hF⟩ : ∃ F, fits (ss.take k) = F := ⟨_, rfl⟩
          rw [hF] at hown Hft hfl
          have Hn : Hid (sv F ++ [Value.string d] = sv (F ++ [d])) := by show _ = _; rw [sv_app]; rfl
          obtain ⟨m, hm⟩ : ∃ m, F.length = m := ⟨_, rfl⟩
          have Hm := Lib.hid hm
          rw [hm] at hown hfl
          clear hft hF hm
          go_wp2_with (at_builtin; refine wpList_append_own _ rfl _ _ 27 rfl w.heap.size 9 i0 (.string ⟨#[]⟩) 1 16 Try.underlying27 hi hz0 hz1 hz2 rfl (by decide) _ _ _ rfl (hown.alloc _) ⟨wr.heap.size, 0, none⟩ 1 1 [.string d] rfl rfl (one_cell _ _ _) (fun x hx => by simp at hx; subst hx; rfl) (by unfold maxLen; omega) (by omega) (by simp; omega) ?_; intro v' w3 hown' hgrow3 hnil3)
          go_roundw
          case rel =>
            refine ⟨k + 1, by omega, by go_num, ?_, ?_⟩
            · rw [Hft.out, List.length_append, Hm.out, ← Hn.out]; exact hown'
            · exact (Hb.out.alloc hsz _).grown hgrow3 (by simp; omega) (fun j e => (World.ownsRow.lt hown j e).1)
          case measure => simp [intOf]; omega
        · rw [if_neg hf, List.append_nil] at hft
          have Hft := Lib.hid hft
          have Hown := Lib.hid hown
          clear hft hown
          go_wp2
          go_roundw
          case rel => exact ⟨k + 1, by omega, by go_num, by rw [Hft.out]; exact Hown.out, Hb.out⟩
          case measure => simp [intOf]; omega
      · obtain rfl : k = n := by omega
        have hfull : fits (ss.take k) = fits ss := by rw [List.take_of_length_le (by rw [Hlen.out]; exact Nat.le_refl _)]
        have hfl := fits_len ss k
        rw [hfull] at hown hfl
        obtain ⟨A', c', e, hst, _⟩ := own_strs hown
        have He := Lib.hid e
        have Hst := Lib.hid hst
        have Hfl := Lib.hid hfl
        clear hown hfull e hst hfl
        go_wp2
        go_meet
        exact ⟨_, A', c', Hfl.out, rfl, He.out, Hst.out, Hb.out⟩
  case rest =>
    obtain ⟨m, A', c', hm, hml, rfl, hst, hb⟩ := hcut
    have Hst := Lib.hid hst
    have Hml := Lib.hid hml
    have Hbc := Lib.hid hb
    have Hfit := Lib.hid (fits_ok ss)
    obtain ⟨O, hO⟩ : ∃ O, fits ss = O := ⟨_, rfl⟩
    rw [hO] at Hst Hml Hfit
    clear hst hml hb hO HL Hs Hlen Hz4 H1
    go_wp2
    go_loopw [4, 6] (fun v i wr => ∃ (k : Nat) (D : List ByteArray), (k + 1 ≤ m ∨ k = 0) ∧ i = .int .i64 ((k : Int) + 1) ∧ D.length = k ∧ (∀ d ∈ D, d.size ≤ 1000000) ∧ backR (O.getD 0 ⟨#[]⟩) D = (O.getD k ⟨#[]⟩, 0) ∧ wr.ownsRow wc.heap.size 9 1 v k (sv D) ∧ Below wc.heap.size wc wr) (fun _ i _ => m - (intOf i).toNat)
    case atStart => exact ⟨0, [], .inr rfl, rfl, rfl, by simp, rfl, World.ownsRow_nil _ _ _ _, Below.refl _ _⟩
    case round =>
      obtain ⟨k, D, hk, rfl, hDl, hDz, hbk, hown, hb⟩ := hrel
      have Hb := Lib.hid hb
      have HDl := Lib.hid hDl
      have HDz := Lib.hid hDz
      have Hbk := Lib.hid hbk
      have Hown := Lib.hid hown
      clear hb hDl hDz hbk hown
      by_cases hlt : k + 1 < m
      · obtain ⟨g, off, rfl, hg, hc⟩ := Hst.out.2 (by omega)
        have hc0 := hc 0 (by omega)
        have hca := (Hb.out.cell (p := ⟨g, off + k, none⟩) hg).trans (hc k (by omega))
        have hcb := (Hb.out.cell (p := ⟨g, off + (k + 1), none⟩) hg).trans (hc (k + 1) (by omega))
        have hcB := hc (k + 1) (by omega)
        have hmem : ∀ j, j < m → (O.getD j ⟨#[]⟩).size ≤ 256 := fun j hj => Hfit.out _ (by
          rw [List.getD_eq_getElem?_getD, List.getElem?_eq_getElem (by rw [Hml.out]; exact hj)]; exact List.getElem_mem _)
        have za := hmem k (by omega)
        have zb := hmem (k + 1) (by omega)
        obtain ⟨o, ho⟩ : ∃ o, O.getD 0 ⟨#[]⟩ = o := ⟨_, rfl⟩
        obtain ⟨a, ha⟩ : ∃ a, O.getD k ⟨#[]⟩ = a := ⟨_, rfl⟩
        obtain ⟨b, hb⟩ : ∃ b, O.getD (k + 1) ⟨#[]⟩ = b := ⟨_, rfl⟩
        rw [ho] at hc0
        rw [ha] at hca za
        rw [hb] at hcb zb hcB
        have Hc0 : Hid (wc.cell? ⟨g, off, none⟩ = some (.string o)) := hc0
        have HcB := Lib.hid hcB
        have HO := Lib.hid ho
        have HA := Lib.hid ha
        have HB := Lib.hid hb
        clear hc hmem ho ha hb hc0 hcB
        have hw1 : IntKind.i64.wrap ((k : Int) + 1 - 1) = (k : Int) := (IntWalk.i64_in _ (by omega)).trans (by omega)
        have ht1 : ((k : Int) + 1).toNat = k + 1 := by omega
        have hw0 : IntKind.i64.wrap (k : Int) = (k : Int) := IntWalk.i64_in _ (by omega)
        have hj1 : (0 : Int) ≤ (k : Int) := by omega
        have hj2 : (k : Int) < (m : Int) := by omega
        have hj3 : (0 : Int) ≤ (k : Int) + 1 := by omega
        have hj4 : (k : Int) + 1 < (m : Int) := by omega
        have hx1 := index_run g off m c' k (k : Int) rfl (by omega)
        have hx2 := index_run g off m c' (k + 1) ((k : Int) + 1) (by omega) hlt
        have C1 : Hid (∀ W, Calls Try.prog 9 #[.string a, .string b] W fun e w' => e = .returned (.tuple #[.string (makeR a b).1, .int .i64 0]) ∧ Below W.heap.size W w') := fun W => by
          refine (make_all a b W).mono ?_
          rintro e w' ⟨rfl, h⟩
          rw [make_ok a b za zb]
          exact ⟨rfl, h⟩
        have HE := Lib.hid (ap_make a b za zb)
        have hms := makeR_size a b
        obtain ⟨d, hd⟩ : ∃ d, (makeR a b).1 = d := ⟨_, rfl⟩
        rw [hd] at C1 HE hms
        clear hd
        go_wp2_with fail
        go_region_held3 (fun w' => w'.cell? ⟨g, off + k, none⟩ = some (.string a) ∧ w'.cell? ⟨g, off + (k + 1), none⟩ = some (.string b)) (first | go_keep | (go_split_ands; refine ⟨?_, ?_⟩ <;> exact keepc hb2 (by assumption))) (first | (go_at_call 9; refine (C1.out _).mono ?_; rintro e w2 ⟨rfl, hb2⟩))
        have hbr : Below wr.heap.size wr w2 := by
          repeat (first | exact Below.refl _ _ | apply Below.drew | refine stepB ?_ (by assumption))
        have Hbr := Lib.hid hbr
        have Hb2 : Hid (Below wc.heap.size wc w2) := stepB Hb.out hbr
        have hown := Hown.out.kept (grown_of_below hbr) (Classical.em _)
        have hDz2 : ∀ x ∈ D ++ [d], x.size ≤ 1000000 := fun x hx => by
          rcases List.mem_append.1 hx with h | h
          · exact HDz.out x h
          · rw [List.mem_singleton.1 h]; omega
        have HDz2 := Lib.hid hDz2
        have HDl2 : Hid ((D ++ [d]).length = k + 1) := by show _ = _; rw [List.length_append, HDl.out]; rfl
        have Hn : Hid (sv D ++ [Value.string d] = sv (D ++ [d])) := by show _ = _; rw [sv_app]; rfl
        have Hbk2 : Hid (backR o (D ++ [d]) = (b, 0)) := by
          show _ = _
          have := Hbk.out
          rw [HO.out, HA.out] at this
          exact backR_snoc D o a b d this HE.out
        clear hw0 hj1 hj2 hj3 hj4 hx1 hca hcb hbr hDz2 hb2 Hown
        go_wp2_with (at_builtin; refine wpList_append_own _ rfl _ _ 27 rfl wc.heap.size 9 i0 (.string ⟨#[]⟩) 1 16 Try.underlying27 hi hz0 hz1 hz2 rfl (by decide) _ _ _ rfl (hown.alloc _) ⟨w2.heap.size, 0, none⟩ 1 1 [.string d] rfl rfl (one_cell _ _ _) (fun x hx => by simp at hx; subst hx; rfl) (by unfold maxLen; omega) (by omega) (by have := Hb2.out.size; simp; omega) ?_; intro v' w3 hown' hgrow3 hnil3; have hb3 := (Hb2.out.alloc Hb2.out.size (.cells #[.string d] 9)).grown hgrow3 (by have := Hb2.out.size; simp; omega) (fun j e => (World.ownsRow.lt hown j e).1); rw [Hn.out] at hown'; have Hown3 := Lib.hid hown'; obtain ⟨A4, c4, rfl, hst4, _⟩ := own_strs hown'; have Hst4 := Lib.hid hst4; have Hb3 := Lib.hid hb3; have hc0 := (hb3.cell (p := ⟨g, off, none⟩) hg).trans Hc0.out; clear hown' hgrow3 hnil3 hst4 hb3)
        refine (Back_any o A4 (k + 1) c4 (D ++ [d]) _ HDz2.out (by omega) Hst4.out).mono ?_
        rintro e w4 ⟨rfl, hb4⟩
        rw [Hbk2.out]
        have Hb4 : Hid (Below wc.heap.size wc w4) := stepB Hb3.out hb4
        have Hown4 := Lib.hid (Hown3.out.kept (grown_of_below hb4) (Classical.em _))
        have hcb := (Hb4.out.cell (p := ⟨g, off + (k + 1), none⟩) hg).trans HcB.out
        have hq : (!b.toList == b.toList) = false := not_false_of (seq_yes rfl)
        clear hb4 hc0 Hown3
        go_wp2_with fail
        go_roundw
        case rel => exact ⟨k + 1, D ++ [d], by omega, by go_num, HDl2.out, HDz2.out, by rw [HO.out, HB.out]; exact Hbk2.out, Hown4.out, Hb4.out⟩
        case measure => simp [intOf]; omega
      · have Hfin : Hid (Below w.heap.size w wr) := Hbc.out.trans (Hb.out.mono Hbc.out.size)
        go_wp2_with fail
        go_ret
        exact ⟨rfl, Hfin.out⟩
theorem walk (A : Option Addr) (n c : Nat) (ss : List ByteArray) (w : World) (hs : Strs w.heap.size w A n ss) (hr : ∀ s ∈ ss, s.size ≤ reachBytes) (hn : n ≤ maxLen) :
    Calls Try.prog 7 #[.slice A n c] w fun e w' => e = .returned (.bool true) ∧ Below w.heap.size w w' := walk_in A n c ss w hs hr hn


set_option maxRecDepth 100000 in
theorem lifted (os : Os) (started : os.Started) (H : Type) (enc : TypeId × Value → H) :
    ReturnsInHanded {} Try.checked os 7 .any (Rows.deltaChainsSpec.pre6 enc Try.prog Try.f7 Rows.deltaChainsRow.domain false) (Rows.deltaChainsSpec.post enc Try.prog Try.f7 false true false false) := by
  refine returnsInHanded_of_change_sized (C := Try.checked) own started (by kernel_rfl) Try.func7
    (ChangeSpec.witness6 (enc := enc) (C := Try.checked) false ⟨#[], #[.slice none 0 0], []⟩ 8 (by kernel_rfl) (by kernel_rfl) (by kernel_rfl) (by kernel_rfl)) ?_
  intro W base args ds gs before hval0 hW _ hsz _
  have hval : ∀ (j : Nat) t v, Try.f7.params[j]? = some t → args[j]? = some v → Value.okWide Try.prog W .any base t v := hval0
  have hW' := hW
  obtain ⟨p, q, hA0, hV, hbef, _, _⟩ := hW
  have hA : DataW.TrodAll enc Try.prog W 0 (fun _ => true) true Try.f7.params.toList args.toList ds p := hA0
  rw [Try.params7] at hA hval
  obtain ⟨v0, vs0, d0, ds0, p0, q0, hargs, rfl, rfl, h0, r0⟩ := trodAll_cons hA
  obtain ⟨rfl, rfl, rfl⟩ := trodAll_nil r0
  obtain rfl : args = #[v0] := by cases args; simp_all
  obtain ⟨rfl, rfl⟩ := trodVars_none hV
  obtain ⟨A0, n0, c0, ss0, rfl, rd0, rb0, mx0⟩ := open_strs Try.underlying27 Try.underlying9 cells9 (hval 0 27 v0 rfl rfl) h0 (weight_at (ts := Try.f7.params.toList) hsz (j := 0) (by rw [Try.params7]; rfl) rfl)
  refine (walk A0 n0 c0 ss0 W rd0 rb0 mx0).mono fun e W' ⟨he, hb⟩ => ?_
  subst he
  exact ⟨_, rfl, law_post laidOut (of_decide_eq_true (by kernel_rfl)) rfl Try.underlying4 rfl rfl hW' hb⟩

theorem over : Rows.deltaChainsRow.holds Try.pinned (OpenSpec.ofChange Rows.deltaChainsSpec) :=
  OpenClaim.holds_of_wide 7 Try.f7 rfl rfl rfl rfl rfl rfl rfl ⟨rfl, rfl, rfl, rfl, rfl⟩ rfl rfl rfl rfl rfl (by kernel_rfl) Try.func7 (by kernel_rfl)
    (of_decide_eq_true (by kernel_rfl)) (by unfold Func.isWrapper; first | (rw [if_pos (by decide +kernel)]; kernel_rfl) | (rw [if_neg (by decide +kernel)]; exact ⟨rfl, rfl⟩))
    (fun os started H enc _ => lifted os started H enc)

end Go.Proofs.Ythghaagmpneemaa.deltaChains
namespace Go.Proofs.Ythghaagmpneemaa
theorem deltaChains_holds : Rows.DeltaChainsSaid := deltaChains.over
end Go.Proofs.Ythghaagmpneemaa
