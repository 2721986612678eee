/- unhex. -/
import Derived.Test.YtkgdmdcnhbaidaaDoorD
namespace Go.Proofs.YtkgdmdcnhbaidaaDoor
open Go.ChangeShapes Go.WideShapes Go.ChangeAt Go.RowKit
set_option linter.unusedVariables false
set_option linter.unusedSimpArgs false

theorem digI_all : ∀ x : Fin 256, -1 ≤ digI (UInt8.ofNat x.1) ∧ digI (UInt8.ofNat x.1) < 16 := by decide +kernel
theorem digI_rg (c : UInt8) : -1 ≤ digI c ∧ digI c < 16 := by
  have h := digI_all ⟨c.toNat, c.toNat_lt⟩
  rw [show UInt8.ofNat c.toNat = c by simp] at h
  exact h
theorem unhexL_odd : ∀ (L : List UInt8), L.length % 2 = 1 → unhexL L = none
  | [], h => by simp at h
  | [_], _ => rfl
  | a :: b :: l, h => by
    rw [unhexL, unhexL_odd l (by simp at h; omega)]
    split <;> rfl
theorem or_ : ∀ h l : Fin 16, bits .or .i64 ((h.1 : Int) * 16) (l.1 : Int) = (h.1 : Int) * 16 + (l.1 : Int) := by decide +kernel
theorem unhex_step {L : List UInt8} {k : Nat} (h : k + 1 < L.length) : unhexL (L.drop k) = if digI (L.getD k 0) < 0 ∨ digI (L.getD (k + 1) 0) < 0 then none else (unhexL (L.drop (k + 2))).map (fun r => UInt8.ofNat (16 * (digI (L.getD k 0)).toNat + (digI (L.getD (k + 1) 0)).toNat) :: r) := by
  rw [List.drop_eq_getElem_cons (show k < L.length by omega), List.drop_eq_getElem_cons h, unhexL, List.getD_eq_getElem?_getD, List.getD_eq_getElem?_getD, List.getElem?_eq_getElem (show k < L.length by omega), List.getElem?_eq_getElem h]; rfl
theorem sindex_ (s : ByteArray) (k : Nat) (i : Int) (hi : i = (k : Int)) (h : k < s.size) (W : World) : (Instr.index 9 (.string s) (.int .i64 i)).run Tryd.prog W = .ok (.int .u8 ((s.data.toList.getD k 0).toNat : Nat)) W := by
  subst hi
  have h1 : (0 : Int) ≤ (k : Int) := by omega
  unfold Instr.index
  go_simp
  rfl
set_option maxRecDepth 100000 in
set_option maxHeartbeats 8000000 in
theorem unhex_any (s : ByteArray) (w : World) (hs : s.size ≤ 100000) : Calls Tryd.prog 54 #[.string s] w fun e w' => e = .returned (.tuple #[.string ((unhexP s).getD emp), .bool (unhexP s).isSome]) ∧ Below w.heap.size w w' := by
  by_cases hd : s = { data := #[45] }
  · have hp : unhexP s = some emp := by unfold unhexP; rw [if_pos hd]
    rw [hp, hd]
    clear hp hd
    go_enter Tryd.func54, Tryd.ntmps54
    go_wp2
    go_ret2
    exact ⟨rfl, Below.refl _ _⟩
  · have e0 : (s.toList == [45]) = false := by
      rw [beq_eq_false_iff_ne, ByteArray.toList_eq]
      exact fun e => hd (ByteArray.ext (Array.toList_inj.1 e))
    obtain ⟨n, hn⟩ : ∃ n, s.size = n := ⟨_, rfl⟩
    obtain ⟨L, hL⟩ : ∃ L, s.data.toList = L := ⟨_, rfl⟩
    have HLN : Hid (L.length = n) := by show _ = _; rw [← hL, ← hn]; rfl
    by_cases h0 : n = 0
    · have hp : unhexP s = none := by unfold unhexP; rw [if_neg hd, if_pos (by rw [hn]; exact h0)]
      rw [hp]
      have e1 : s.toList.isEmpty = true := by
        rw [ByteArray.toList_eq, List.isEmpty_iff]
        exact List.eq_nil_of_length_eq_zero (by show s.size = 0; rw [hn]; exact h0)
      clear hp hd h0 hL hn
      go_enter Tryd.func54, Tryd.ntmps54
      go_wp2
      go_ret2
      exact ⟨rfl, Below.refl _ _⟩
    · have e1 : s.toList.isEmpty = false := by
        rw [ByteArray.toList_eq, Bool.eq_false_iff]
        intro e
        rw [List.isEmpty_iff] at e
        exact h0 (by rw [← hn]; have := congrArg List.length e; exact this)
      have hp : unhexP s = (unhexL L).map ofL := by unfold unhexP; rw [if_neg hd, if_neg (by rw [hn]; exact h0), hL]
      rw [hp]
      clear hp hd
      rw [hn] at hs
      by_cases hodd : n % 2 = 1
      · have e2 : Int.tmod (n : Int) 2 = 1 := by rw [Int.tmod_eq_emod_of_nonneg (by omega)]; omega
        rw [unhexL_odd L (by rw [HLN.out]; exact hodd)]
        clear hodd hL
        go_enter Tryd.func54, Tryd.ntmps54
        go_wp2
        go_ret2
        exact ⟨rfl, Below.refl _ _⟩
      · have e2 : Int.tmod (n : Int) 2 = 0 := by rw [Int.tmod_eq_emod_of_nonneg (by omega)]; omega
        have HIX : Hid (∀ (k : Nat) (i : Int) (hi : i = (k : Int)) (h : k < n) (W : World), (Instr.index 9 (.string s) (.int .i64 i)).run Tryd.prog W = .ok (.int .u8 ((L.getD k 0).toNat : Nat)) W) := fun k i hi h W => by
          have := sindex_ s k i hi (by rw [hn]; exact h) W
          rw [hL] at this
          exact this
        clear hL
        go_enter Tryd.func54, Tryd.ntmps54
        go_wp2
        go_loopw [4, 5] (fun al ix W => ∃ (j : Nat) (v : Value) (pre : List UInt8), 2 * j ≤ n ∧ ix = .int .i64 ((2 * j : Nat) : Int) ∧ al = v ∧ Ow bv W w.heap.size 5 v j pre ∧ unhexL L = (unhexL (L.drop (2 * j))).map (pre ++ ·) ∧ Below w.heap.size w W) (fun _ ix _ => n - (intOf ix).toNat)
        case atStart => exact ⟨0, _, [], by omega, rfl, rfl, Ow.none _ _ _, by simp, Below.refl _ _⟩
        case round =>
          obtain ⟨j, v, pre, hj, rfl, rfl, ho, hu, hb⟩ := hrel
          have HO := Lib.hid ho
          have HB := Lib.hid hb
          have HU := Lib.hid hu
          clear ho hb hu
          obtain ⟨k, hk⟩ : ∃ k, 2 * j = k := ⟨_, rfl⟩
          rw [hk] at HU hj ⊢
          by_cases hlt : k < n
          · have d1 : decide ((k : Int) < (n : Int)) = true := decide_eq_true (by omega)
            have wk : IntKind.i64.wrap ((k : Int) + 1) = (k : Int) + 1 := IntWalk.i64_in _ (by omega)
            have wk2 : IntKind.i64.wrap ((k : Int) + 2) = (k : Int) + 2 := IntWalk.i64_in _ (by omega)
            have i1 := HIX.out k (k : Int) rfl hlt
            have i2 := HIX.out (k + 1) ((k : Int) + 1) (by omega) (by omega)
            have hst := unhex_step (L := L) (k := k) (by rw [HLN.out]; omega)
            obtain ⟨ca, hca⟩ : ∃ c, L.getD k 0 = c := ⟨_, rfl⟩
            obtain ⟨cb, hcb⟩ : ∃ c, L.getD (k + 1) 0 = c := ⟨_, rfl⟩
            rw [hca] at i1 hst
            rw [hcb] at i2 hst
            have ra := digI_rg ca
            have rb := digI_rg cb
            have HIA : Hid (∀ (c : UInt8) (W : World), Calls Tryd.prog 63 #[.string { data := #[48, 49, 50, 51, 52, 53, 54, 55, 56, 57, 97, 98, 99, 100, 101, 102] }, .int .u8 (c.toNat : Nat)] W fun e w' => e = .returned (.int .i64 (digI c)) ∧ w' = W) := fun c W => by
              have h := Tryd.strings_IndexByte { data := #[48, 49, 50, 51, 52, 53, 54, 55, 56, 57, 97, 98, 99, 100, 101, 102] } ((c.toNat : Nat) : Int) W
              rw [show ((c.toNat : Nat) : Int).toNat.toUInt8 = c by simp] at h
              exact h
            clear hca hcb
            have hbr := Below.refl w.heap.size w
            go_upto_region 9 with (fail)
            go_cut [6, 7] (fun s6 s7 wx => s6 = .int .i64 (digI ca) ∧ s7 = .int .i64 (digI cb) ∧ Below wr.heap.size wr wx)
            case first =>
              go_region_held3 (fun _ => True) (first | assumption | trivial) (first
                | (go_at_call 63; refine (HIA.out _ _).mono ?_; rintro x wz ⟨rfl, rfl⟩))
              all_goals (
                go_wp2
                go_meet
                exact ⟨rfl, rfl, Below.drew (Below.refl _ _)⟩)
            case rest =>
              obtain ⟨rfl, rfl, hb⟩ := hcut
              obtain ⟨w2, rfl⟩ : ∃ w2 : World, w2 = wc := ⟨_, rfl⟩
              have HO2 := Lib.hid (HO.out.later hb)
              have HB2 := Lib.hid (stepB HB.out hb)
              clear hb HO HB HIA
              obtain ⟨x, hx⟩ : ∃ x, digI ca = x := ⟨_, rfl⟩
              obtain ⟨y, hy⟩ : ∃ y, digI cb = y := ⟨_, rfl⟩
              rw [hx, hy] at hst ⊢
              rw [hx] at ra
              rw [hy] at rb
              clear hx hy hbr i1 i2
              by_cases q1 : x < 0
              · have f1 : decide (x < 0) = true := decide_eq_true q1
                rw [if_pos (.inl q1)] at hst
                have HR : Hid (unhexL L = none) := by show _ = _; rw [HU.out, hst]; rfl
                clear hst q1 ra rb
                go_wp2
                go_ret2
                exact ⟨by rw [HR.out]; rfl, HB2.out⟩
              · have f1 : decide (x < 0) = false := decide_eq_false q1
                by_cases q2 : y < 0
                · have f2 : decide (y < 0) = true := decide_eq_true q2
                  rw [if_pos (.inr q2)] at hst
                  have HR : Hid (unhexL L = none) := by show _ = _; rw [HU.out, hst]; rfl
                  clear hst q1 q2 ra rb
                  go_wp2
                  go_ret2
                  exact ⟨by rw [HR.out]; rfl, HB2.out⟩
                · have f2 : decide (y < 0) = false := decide_eq_false q2
                  rw [if_neg (fun h => h.elim q1 q2)] at hst
                  obtain ⟨z, hz⟩ : ∃ z : Nat, 16 * x.toNat + y.toNat = z := ⟨_, rfl⟩
                  rw [hz] at hst
                  have s1 : IntKind.i64.wrap (x * 16) = x * 16 := IntWalk.i64_in _ (by omega)
                  have s2 : bits .or .i64 (x * 16) y = (z : Int) := by
                    have h := or_ ⟨x.toNat, by omega⟩ ⟨y.toNat, by omega⟩
                    simp only at h
                    rw [show ((x.toNat : Nat) : Int) = x by omega, show ((y.toNat : Nat) : Int) = y by omega] at h
                    rw [h]; omega
                  have s3 : IntKind.u8.wrap (z : Int) = ((UInt8.ofNat z).toNat : Nat) := by
                    have : z < 256 := by omega
                    simp [IntKind.wrap, IntKind.bits, IntKind.signed]
                  have hz8 : (z : Int) % 256 = ((UInt8.ofNat z).toNat : Nat) := by simp
                  have HUN : Hid (unhexL L = (unhexL (L.drop (k + 2))).map ((pre ++ [UInt8.ofNat z]) ++ ·)) := by
                    show _ = _
                    rw [HU.out, hst, Option.map_map]
                    congr 1
                    funext r
                    simp
                  have HZ8 := Lib.hid hz8
                  obtain ⟨Av, cv, hv1, _⟩ := Ow.sl HO2.out
                  subst hv1
                  have hbx : Below w2.heap.size w2 (w2.alloc (.cells #[.int .u8 ((z : Int) % 256)] 5)) := (Below.refl _ _).alloc (Nat.le_refl _) _
                  have HY : Hid (Sl bv (w2.alloc (.cells #[.int .u8 ((z : Int) % 256)] 5)) (some ⟨w2.heap.size, 0, none⟩) 1 1 [UInt8.ofNat z]) := by
                    have h := Blk.sl (enc := bv) (xs := [UInt8.ofNat z]) (Blk.new w2 #[bv (UInt8.ofNat z)] 5)
                    unfold bv at h
                    rw [← hz8] at h
                    exact h
                  have HO3 := Lib.hid (HO2.out.later hbx)
                  have HB3 := Lib.hid (stepB HB2.out hbx)
                  clear hst hz8 hbx HO2 HB2 HU ra rb q1 q2 hz
                  go_wp2_with (first
                    | (at_builtin; refine wpList_append_sl elemB rfl (.tmp 39) (.tmp 45) rfl w.heap.size (.slice Av j cv) j pre rfl HO3.out (some ⟨w2.heap.size, 0, none⟩) 1 1 [UInt8.ofNat z] rfl HY.out (by omega) (by decide) HB3.out.size ?_; intro v8 w8 ho8)
                    | fail)
                  intro hg8
                  have HO8 := Lib.hid ho8
                  have HB8 : Hid (Below w.heap.size w w8) := HB3.out.grown hg8 HB3.out.size (fun j e => (Ow.lt HO3.out j e).1)
                  clear ho8 hg8 HO3 HB3 HY
                  go_wp2
                  go_roundw
                  case rel => exact ⟨j + 1, _, pre ++ [UInt8.ofNat z], by omega, by rw [show ((2 * (j + 1) : Nat) : Int) = (k : Int) + 2 by omega], rfl, HO8.out, by rw [show 2 * (j + 1) = k + 2 by omega]; exact HUN.out, HB8.out⟩
                  case measure => simp [intOf]; omega
          · have hkn : k = n := by omega
            have HR : Hid (unhexL L = some pre) := by
              show _ = _
              rw [HU.out, List.drop_eq_nil_of_le (by rw [HLN.out]; omega)]
              show some (pre ++ []) = _
              rw [List.append_nil]
            have d1 : decide ((k : Int) < (n : Int)) = false := decide_eq_false (by omega)
            have hcb := conv_back HO.out (by omega)
            go_wp2
            go_ret2
            exact ⟨by rw [HR.out]; rfl, HB.out⟩
end Go.Proofs.YtkgdmdcnhbaidaaDoor
