/- The document's own deltas: two bytes of a number, and the delta of two values. -/
import Derived.Test.YthghaagmpneemaaX
import Derived.Deep.RegionWith
import Derived.Deep.RegionHeld3
import Derived.Deep.DeepCutAuto
import Derived.Deep.CutBlock
namespace Go.Proofs.Ythghaagmpneemaa
open Go.ChangeShapes Go.WideShapes Go.ChangeAt Go.RowKit
set_option linter.unusedVariables false
theorem conv_two (w : World) (C : Array Value) (n : Nat) (h : n ≤ 65535) (T : TypeId) (hC : C = #[.int .u8 ((n : Int) / 256), .int .u8 ((n : Int) % 256)]) :
    (convert 23 9 (.slice (some ⟨w.heap.size, 0, none⟩) 2 2)).run Try.prog (w.alloc (.cells C T)) = .ok (.string (str (two n))) (w.alloc (.cells C T)) := by
  have hr : RdB (w.alloc (.cells C T)) (some ⟨w.heap.size, 0, none⟩) 2 (intsOf (two n)) := by
    refine rd_new w C T (0, 0) (two n) 2 rfl fun j hj => ?_
    rw [hC]
    have h2 : j = 0 ∨ j = 1 := by omega
    rcases h2 with rfl | rfl
    · show some _ = some (Value.int .u8 ((UInt8.ofNat (n / 256)).toNat : Int))
      rw [toNat_ofNat _ (by omega)]; rfl
    · show some _ = some (Value.int .u8 ((UInt8.ofNat (n % 256)).toNat : Int))
      rw [toNat_ofNat _ (by omega)]; rfl
  exact conv_back w.heap.size (two n) 2 2 _ hr (by omega) _ (fun _ => rfl)
set_option maxHeartbeats 1000000 in
theorem two_any (n : Nat) (w : World) (h : n ≤ 65535) : Calls Try.prog 19 #[.int .i64 n] w fun e w' => e = .returned (.string (str (two n))) ∧ Below w.heap.size w w' := by
  have hcv := conv_two w _ n h 5 rfl
  go_enter Try.func19, Try.ntmps19
  go_wp2_with fail
  go_ret
  exact ⟨rfl, (Below.refl _ _).alloc (Nat.le_refl _) _⟩

theorem stepB {w0 a b : World} (h : Below w0.heap.size w0 a) (k : Below a.heap.size a b) : Below w0.heap.size w0 b := h.trans (k.mono h.size)
theorem rmake_no (a b : ByteArray) (w : World) (h : ¬ (a.size ≤ 256 ∧ b.size ≤ 256)) :
    Calls Try.prog 13 #[.string a, .string b] w fun e w' => e = .returned (.tuple #[.string ⟨#[]⟩, .int .i64 40]) ∧ w = w' := by
  by_cases ha : a.size ≤ 256
  · have hb : 256 < b.size := by omega
    clear h
    go_enter Try.func13, Try.ntmps13
    go_wp2_with fail
    go_ret2
    exact ⟨rfl, rfl⟩
  · have hb : 256 < a.size := by omega
    clear h ha
    go_enter Try.func13, Try.ntmps13
    go_wp2_with fail
    go_ret2
    exact ⟨rfl, rfl⟩
theorem getB (a : ByteArray) (j : Nat) (x : Int) (h : j < a.size) (hx : (((bl a).getD j 0).toNat : Int) = x) : ∀ W, (Instr.index 9 (.string a) (.int .i64 (j : Int))).run Try.prog W = .ok (.int .u8 x) W := fun W => by
  rw [index_s a j W h, hx]
theorem getE (a : ByteArray) (j : Nat) (x : Int) (h : j < a.size) (hx : (((bl a).getD (a.size - 1 - j) 0).toNat : Int) = x) : ∀ W, (Instr.index 9 (.string a) (.int .i64 ((a.size : Int) - 1 - (j : Int)))).run Try.prog W = .ok (.int .u8 x) W := fun W => by
  rw [show (a.size : Int) - 1 - (j : Int) = ((a.size - 1 - j : Nat) : Int) from by omega, index_s a _ W (by omega), hx]
theorem fst_no {a b : ByteArray} {k : Nat} (h : ¬ (((bl a).getD k 0).toNat : Int) = (((bl b).getD k 0).toNat : Int)) : fstB (bl a) (bl b) k = false := by
  unfold fstB; rw [beq_eq_false_iff_ne]; intro e; exact h (by rw [e])
theorem fst_yes {a b : ByteArray} {k : Nat} (h : (((bl a).getD k 0).toNat : Int) = (((bl b).getD k 0).toNat : Int)) : fstB (bl a) (bl b) k = true := by
  unfold fstB; rw [beq_iff_eq]; exact UInt8.toNat_inj.1 (by omega)
theorem lst_no {a b : ByteArray} {k : Nat} (h : ¬ (((bl a).getD (a.size - 1 - k) 0).toNat : Int) = (((bl b).getD (b.size - 1 - k) 0).toNat : Int)) : lstB (bl a) (bl b) k = false := by
  unfold lstB; rw [bl_len, bl_len, beq_eq_false_iff_ne]; intro e; exact h (by rw [e])
theorem lst_yes {a b : ByteArray} {k : Nat} (h : (((bl a).getD (a.size - 1 - k) 0).toNat : Int) = (((bl b).getD (b.size - 1 - k) 0).toNat : Int)) : lstB (bl a) (bl b) k = true := by
  unfold lstB; rw [bl_len, bl_len, beq_iff_eq]; exact UInt8.toNat_inj.1 (by omega)
set_option maxRecDepth 100000 in
set_option maxHeartbeats 4000000 in
theorem rmake_yes (a b : ByteArray) (w : World) (ha : a.size ≤ 256) (hb : b.size ≤ 256) :
    Calls Try.prog 13 #[.string a, .string b] w fun e w' => e = .returned (.tuple #[.string (str (mk (bl a) (bl b))), .int .i64 0]) ∧ Below w.heap.size w w' := by
  go_enter Try.func13, Try.ntmps13
  go_upto_block 0 with (fail)
  go_cut [6] (fun p wx => p = .int .i64 (pre (bl a) (bl b) : Nat) ∧ ∃ d, wx = w.drewN d)
  case first =>
    go_wp2
    go_loopw [6] (fun i wr => ∃ k : Nat, k ≤ a.size ∧ k ≤ b.size ∧ i = .int .i64 k ∧ (∀ j, j < k → fstB (bl a) (bl b) j = true) ∧ ∃ d, wr = w.drewN d) (fun i _ => a.size - (intOf i).toNat)
    case atStart => exact ⟨0, by omega, by omega, rfl, fun j hj => by omega, 0, rfl⟩
    case round =>
      obtain ⟨k, hk, hk', rfl, hall, d, rfl⟩ := hrel
      have Hall := Lib.hid hall
      clear hall
      by_cases hgo : (k < a.size ∧ k < b.size) ∧ (((bl a).getD k 0).toNat : Int) = (((bl b).getD k 0).toNat : Int)
      · obtain ⟨⟨h1, h2⟩, he⟩ := hgo
        have Hall2 : Hid (∀ j, j < k + 1 → fstB (bl a) (bl b) j = true) := fun j hj => by
          by_cases e : j = k
          · subst e; exact fst_yes he
          · exact Hall.out j (by omega)
        have hi1 := getB a k _ h1 rfl
        have hi2 := getB b k _ h2 he.symm
        obtain ⟨x, hx⟩ : ∃ x : Int, (((bl a).getD k 0).toNat : Int) = x := ⟨_, rfl⟩
        rw [hx] at hi1 hi2
        clear he hx
        go_wp2
        go_quiet (fail)
        clear hi1 hi2
        go_wp2
        go_roundw
        case rel => exact ⟨k + 1, by omega, by omega, by go_num, Hall2.out, d + nq, by first | rfl | simp⟩
        case measure => simp [intOf]; omega
      · have HP : Hid (pre (bl a) (bl b) = k) := by
          show _ = _
          unfold pre
          refine cnt_eq ⟨by simp only [bl_len]; omega, Hall.out, fun c => ?_⟩
          simp only [bl_len] at c
          exact fst_no (fun e => hgo ⟨by omega, e⟩)
        have Hgo := Lib.hid hgo
        clear hgo
        by_cases h1 : k < a.size
        · by_cases h2 : k < b.size
          · have hi1 := getB a k _ h1 rfl
            have hi2 := getB b k _ h2 rfl
            have hne : ((((bl a).getD k 0).toNat : Int) == (((bl b).getD k 0).toNat : Int)) = false := by
              rw [beq_eq_false_iff_ne]; exact fun e => Hgo.out ⟨⟨h1, h2⟩, e⟩
            obtain ⟨x, hx⟩ : ∃ x : Int, (((bl a).getD k 0).toNat : Int) = x := ⟨_, rfl⟩
            obtain ⟨y, hy⟩ : ∃ y : Int, (((bl b).getD k 0).toNat : Int) = y := ⟨_, rfl⟩
            rw [hx] at hi1 hne
            rw [hy] at hi2 hne
            clear hx hy
            go_wp2
            go_quiet (fail)
            clear hi1 hi2 hne
            go_wp2
            go_meet
            exact ⟨by rw [HP.out], d + nq, by first | rfl | simp⟩
          · have hd : decide (k < b.size) = false := decide_eq_false h2
            have hd1 : decide (k < a.size) = true := decide_eq_true h1
            clear h2
            go_wp2
            go_quiet (fail)
            clear hd hd1
            go_wp2
            go_meet
            exact ⟨by rw [HP.out], d + nq, by first | rfl | simp⟩
        · have hd : decide (k < a.size) = false := decide_eq_false h1
          clear h1
          go_wp2
          go_quiet (fail)
          clear hd
          go_wp2
          go_meet
          exact ⟨by rw [HP.out], d + nq, by first | rfl | simp⟩
  case rest =>
    obtain ⟨rfl, d0, rfl⟩ := hcut
    have hp := pre_le (bl a) (bl b)
    have hs := both_le (bl a) (bl b)
    rw [bl_len, bl_len] at hp hs
    have HF : Hid (∃ q t, pre (bl a) (bl b) = q ∧ suf (bl a) (bl b) = t ∧ mk (bl a) (bl b) = two q ++ two t ++ ((bl b).drop q).take (b.size - t - q)) := ⟨_, _, rfl, rfl, by unfold mk mid; rw [bl_len]⟩
    obtain ⟨p, s, hpp, hss, hmk⟩ := HF.out
    rw [hpp] at hp hs ⊢
    rw [hss] at hs
    have Hpp := Lib.hid hpp
    have Hss := Lib.hid hss
    have Hmk := Lib.hid hmk
    clear hpp hss hmk HF
    obtain ⟨wo, hwo⟩ : ∃ wo : World, wo = w.drewN d0 := ⟨_, rfl⟩
    rw [← hwo]
    have hbo : Hid (Below w.heap.size w wo) := by rw [hwo]; exact below_drewN (Below.refl _ _) _
    clear hwo
    go_upto_block 2 with (fail)
    go_cut [7] (fun t wx => t = .int .i64 (s : Nat) ∧ ∃ d, wx = wo.drewN d)
    case first =>
      go_wp2
      go_loopw [7] (fun i wr => ∃ k : Nat, k ≤ a.size - p ∧ k ≤ b.size - p ∧ i = .int .i64 k ∧ (∀ j, j < k → lstB (bl a) (bl b) j = true) ∧ ∃ d, wr = wo.drewN d) (fun i _ => a.size - (intOf i).toNat)
      case atStart => exact ⟨0, by omega, by omega, rfl, fun j hj => by omega, 0, rfl⟩
      case round =>
        obtain ⟨k, hk, hk', rfl, hall, d, rfl⟩ := hrel
        have Hall := Lib.hid hall
        clear hall
        have hwa : IntKind.i64.wrap ((a.size : Int) - (p : Int)) = (a.size : Int) - (p : Int) := IntWalk.i64_in _ (by omega)
        have hwb : IntKind.i64.wrap ((b.size : Int) - (p : Int)) = (b.size : Int) - (p : Int) := IntWalk.i64_in _ (by omega)
        have hwa1 : IntKind.i64.wrap ((a.size : Int) - 1) = (a.size : Int) - 1 := IntWalk.i64_in _ (by omega)
        have hwb1 : IntKind.i64.wrap ((b.size : Int) - 1) = (b.size : Int) - 1 := IntWalk.i64_in _ (by omega)
        have hwa2 : IntKind.i64.wrap ((a.size : Int) - 1 - (k : Int)) = (a.size : Int) - 1 - (k : Int) := IntWalk.i64_in _ (by omega)
        have hwb2 : IntKind.i64.wrap ((b.size : Int) - 1 - (k : Int)) = (b.size : Int) - 1 - (k : Int) := IntWalk.i64_in _ (by omega)
        by_cases hgo : (k < a.size - p ∧ k < b.size - p) ∧ (((bl a).getD (a.size - 1 - k) 0).toNat : Int) = (((bl b).getD (b.size - 1 - k) 0).toNat : Int)
        · obtain ⟨⟨h1, h2⟩, he⟩ := hgo
          have Hall2 : Hid (∀ j, j < k + 1 → lstB (bl a) (bl b) j = true) := fun j hj => by
            by_cases e : j = k
            · subst e; exact lst_yes he
            · exact Hall.out j (by omega)
          have hi1 := getE a k _ (by omega) rfl
          have hi2 := getE b k _ (by omega) he.symm
          obtain ⟨x, hx⟩ : ∃ x : Int, (((bl a).getD (a.size - 1 - k) 0).toNat : Int) = x := ⟨_, rfl⟩
          rw [hx] at hi1 hi2
          have hd1 : decide ((k : Int) < (a.size : Int) - (p : Int)) = true := decide_eq_true (by omega)
          have hd2 : decide ((k : Int) < (b.size : Int) - (p : Int)) = true := decide_eq_true (by omega)
          clear he hx
          go_wp2
          go_quiet (fail)
          clear hi1 hi2 hwa hwb hwa1 hwb1 hwa2 hwb2 hd1 hd2
          go_wp2
          go_roundw
          case rel => exact ⟨k + 1, by omega, by omega, by go_num, Hall2.out, d + nq, by first | rfl | simp⟩
          case measure => simp [intOf]; omega
        · have HP : Hid (s = k) := by
            show _ = _
            rw [← Hss.out]
            unfold suf
            refine cnt_eq ⟨by rw [Hpp.out]; simp only [bl_len]; omega, Hall.out, fun c => ?_⟩
            rw [Hpp.out] at c
            simp only [bl_len] at c
            exact lst_no (fun e => hgo ⟨by omega, e⟩)
          have Hgo := Lib.hid hgo
          clear hgo
          by_cases h1 : k < a.size - p
          · have hd1 : decide ((k : Int) < (a.size : Int) - (p : Int)) = true := decide_eq_true (by omega)
            by_cases h2 : k < b.size - p
            · have hd2 : decide ((k : Int) < (b.size : Int) - (p : Int)) = true := decide_eq_true (by omega)
              have hi1 := getE a k _ (by omega) rfl
              have hi2 := getE b k _ (by omega) rfl
              have hne : ((((bl a).getD (a.size - 1 - k) 0).toNat : Int) == (((bl b).getD (b.size - 1 - k) 0).toNat : Int)) = false := by
                rw [beq_eq_false_iff_ne]; exact fun e => Hgo.out ⟨⟨h1, h2⟩, e⟩
              obtain ⟨x, hx⟩ : ∃ x : Int, (((bl a).getD (a.size - 1 - k) 0).toNat : Int) = x := ⟨_, rfl⟩
              obtain ⟨y, hy⟩ : ∃ y : Int, (((bl b).getD (b.size - 1 - k) 0).toNat : Int) = y := ⟨_, rfl⟩
              rw [hx] at hi1 hne
              rw [hy] at hi2 hne
              clear hx hy
              go_wp2
              go_quiet (fail)
              clear hi1 hi2 hne hwa hwb hwa1 hwb1 hwa2 hwb2 hd1 hd2
              go_wp2
              go_meet
              exact ⟨by rw [HP.out], d + nq, by first | rfl | simp⟩
            · have hd2 : decide ((k : Int) < (b.size : Int) - (p : Int)) = false := decide_eq_false (by omega)
              clear h2
              go_wp2
              go_quiet (fail)
              clear hwa hwb hwa1 hwb1 hwa2 hwb2 hd1 hd2
              go_wp2
              go_meet
              exact ⟨by rw [HP.out], d + nq, by first | rfl | simp⟩
          · have hd1 : decide ((k : Int) < (a.size : Int) - (p : Int)) = false := decide_eq_false (by omega)
            clear h1
            go_wp2
            go_quiet (fail)
            clear hwa hwb hwa1 hwb1 hwa2 hwb2 hd1
            go_wp2
            go_meet
            exact ⟨by rw [HP.out], d + nq, by first | rfl | simp⟩
    case rest =>
      obtain ⟨rfl, d1, rfl⟩ := hcut
      obtain ⟨P1, hP1⟩ : ∃ X, str (two p) = X := ⟨_, rfl⟩
      obtain ⟨P2, hP2⟩ : ∃ X, str (two s) = X := ⟨_, rfl⟩
      obtain ⟨P3, hP3⟩ : ∃ X, str (two p ++ two s) = X := ⟨_, rfl⟩
      obtain ⟨P4, hP4⟩ : ∃ X, str (((bl b).drop p).take (b.size - s - p)) = X := ⟨_, rfl⟩
      obtain ⟨P5, hP5⟩ : ∃ X, str (mk (bl a) (bl b)) = X := ⟨_, rfl⟩
      have C1 := Lib.hid (fun W => two_any p W (by omega))
      have C2 := Lib.hid (fun W => two_any s W (by omega))
      rw [hP1] at C1
      rw [hP2] at C2
      have HP5 := Lib.hid hP5
      have hw1 : IntKind.i64.wrap ((b.size : Int) - (s : Int)) = (b.size : Int) - (s : Int) := IntWalk.i64_in _ (by omega)
      have hsl : ∀ W, (Instr.slice 9 (.string b) (some (.int .i64 (p : Int))) (some (.int .i64 ((b.size : Int) - (s : Int)))) none).run Try.prog W = .ok (.string P4) W := fun W => by
        rw [← hP4, run_slice_string_if W 9 b .i64 .i64 _ _ Try.underlying9, if_pos ⟨by omega, by omega⟩, if_pos ⟨by omega, by omega⟩, extract_str]
        unfold str
        congr 5; omega
      have hk1 : ∀ W, (Op.stringOp .add P1 P2).run Try.prog W = .ok (.string P3) W := fun W => by
        rw [← hP1, ← hP2, ← hP3]; exact run_cat W _ _ (by simp [two])
      have hk2 : ∀ W, (Op.stringOp .add P3 P4).run Try.prog W = .ok (.string P5) W := fun W => by
        rw [← hP3, ← hP4, ← hP5, Hmk.out]; exact run_cat W _ _ (by simp [two]; omega)
      clear hP1 hP2 hP3 hP4 hP5
      have hbo2 : Hid (Below w.heap.size w (wo.drewN d1)) := below_drewN hbo.out _
      generalize wo.drewN d1 = w1 at *
      clear hbo
      go_wp2_with fail
      go_region_with (first | (go_at_call_of 19 (Value.int .i64 (p : Int)); refine (C1.out _).mono ?_; rintro e w2 ⟨rfl, hb1⟩) | (go_at_call_of 19 (Value.int .i64 (s : Int)); refine (C2.out _).mono ?_; rintro e w3 ⟨rfl, hb2⟩))
      all_goals
        go_wp2
        go_ret2
        refine ⟨Eq.trans (b := Ending.returned (.tuple #[.string P5, .int .i64 0])) rfl (by rw [HP5.out]), ?_⟩
        repeat (first | exact hbo2.out | apply Below.drew | refine stepB ?_ (by assumption))
end Go.Proofs.Ythghaagmpneemaa
