/- Where a task's transaction is. -/
import Derived.Test.YtoinjnocopejjaaLI
import Derived.StillTailTactics
namespace Go.Proofs.Ytoinjnocopejjaa
open Go.ChangeShapes Go.WideShapes Go.ChangeAt Go.RowKit Go.Maps
set_option linter.unusedVariables false
set_option linter.unusedSimpArgs false
theorem wk_1000 (k : Nat) (h : k ≤ 1000) : IntKind.i64.wrap ((k : Int) + 1) = (k : Int) + 1 ∧ wrap64 ((k : Int) + 1) = (k : Int) + 1 := ⟨IntWalk.i64_in _ (by omega), by unfold wrap64; omega⟩
theorem ms_n (q n : Nat) (h : q < n) : n - (intOf (.int .i64 ((q : Int) + 1))).toNat < n - (intOf (.int .i64 (q : Int))).toNat := by simp [intOf]; omega
set_option maxRecDepth 100000 in
set_option maxHeartbeats 1600000 in
theorem find_any (B p : Nat) (g : Lg) (x : LX) (t m : Int) (w : World) (h : LgAt w B p g x) (hl : g.lives.length ≤ 1000) : Calls Try.prog 33 #[.pointer (some ⟨p, 0, none⟩), .int .i64 t, .int .i64 m] w fun e w' => e = .returned (.int .i64 (findL g t m)) ∧ w = w' := by
  have H := Lib.hid h
  have HL := Lib.hid hl
  obtain ⟨n, hn⟩ : ∃ n, g.lives.length = n := ⟨_, rfl⟩
  have HN := Lib.hid hn
  obtain ⟨_, _, k2⟩ := h.c0
  rw [hn] at k2
  clear h hl hn
  go_enter Try.func33, Try.ntmps33
  go_wp2
  go_loopw [7] (fun i W => ∃ k : Nat, k ≤ n ∧ i = .int .i64 k ∧ (∀ j, j < k → ¬ ((gl g j).task = t ∧ (gl g j).n = m)) ∧ w = W) (fun i _ => n - (intOf i).toNat)
  case atStart => exact ⟨0, Nat.zero_le _, rfl, fun j hj => absurd hj (Nat.not_lt_zero j), rfl⟩
  case round =>
    obtain ⟨k, hk, rfl, hno, rfl⟩ := hrel
    have HNO := Lib.hid hno
    clear hno
    by_cases hlt : k < n
    · have d2 : decide ((k : Int) < (n : Int)) = true := decide_eq_true (Int.ofNat_lt.2 hlt)
      have hkl : k < g.lives.length := by rw [HN.out]; exact hlt
      obtain ⟨b, off, hd, hA, _, hc⟩ := H.out.life hkl
      have y0 := hc 0 (by decide)
      have y1 := hc 1 (by decide)
      unfold lfE at y0 y1
      simp only [List.getElem?_cons_zero, List.getElem?_cons_succ, Nat.add_zero] at y0 y1
      rw [hA] at k2
      have i1 := idx59 b off n x.lc k (k : Int) rfl hlt
      obtain ⟨lt, hlt1⟩ : ∃ z, (gl g k).task = z := ⟨_, rfl⟩
      obtain ⟨ln, hln1⟩ : ∃ z, (gl g k).n = z := ⟨_, rfl⟩
      rw [hlt1] at y0
      rw [hln1] at y1
      have HE := Lib.hid (And.intro hlt1 hln1)
      obtain ⟨wk, wk2⟩ := wk_1000 k (by have := HL.out; rw [HN.out] at this; omega)
      have HK := Lib.hid hlt
      have HKL := Lib.hid hkl
      clear hc hA hkl hlt hlt1 hln1 hk
      by_cases e1 : lt = t
      · have b1 : (lt == t) = true := by rw [e1]; exact beq_self_eq_true _
        by_cases e2 : ln = m
        · have b2 : (ln == m) = true := by rw [e2]; exact beq_self_eq_true _
          have HF : Hid (findL g t m = (k : Int)) := Lib.hid (by
            have hk := HK.out
            have hfa : findN t m g.lives = k := findN_at HKL.out ⟨HE.out.1.trans e1, HE.out.2.trans e2⟩ HNO.out
            unfold findL
            rw [hfa, if_pos HKL.out])
          clear e1 e2
          go_wp2
          go_ret
          exact ⟨by rw [HF.out]; rfl, rfl⟩
        · have b2 : (ln == m) = false := by rw [beq_eq_false_iff_ne]; exact e2
          have HN2 : Hid (∀ j, j < k + 1 → ¬ ((gl g j).task = t ∧ (gl g j).n = m)) := Lib.hid (fun j hj => by
            by_cases e : j = k
            · rw [e]; exact fun hh => e2 (HE.out.2.symm.trans hh.2)
            · exact HNO.out j (by omega))
          clear e1 e2
          go_wp2
          exact ⟨⟨k + 1, HK.out, by go_num, HN2.out, trivial⟩, ms_n k n HK.out⟩
      · have b1 : (lt == t) = false := by rw [beq_eq_false_iff_ne]; exact e1
        have HN2 : Hid (∀ j, j < k + 1 → ¬ ((gl g j).task = t ∧ (gl g j).n = m)) := Lib.hid (fun j hj => by
          by_cases e : j = k
          · rw [e]; exact fun hh => e1 (HE.out.1.symm.trans hh.1)
          · exact HNO.out j (by omega))
        clear e1
        go_wp2
        exact ⟨⟨k + 1, HK.out, by go_num, HN2.out, trivial⟩, ms_n k n HK.out⟩
    · obtain rfl : n = k := by omega
      have d2 : decide ((n : Int) < (n : Int)) = false := decide_eq_false (by omega)
      have HF : Hid (findL g t m = -1) := Lib.hid (by
        have hfa : findN t m g.lives = g.lives.length := findN_no (fun j hj => HNO.out j (by rw [← HN.out]; exact hj))
        unfold findL
        rw [hfa, if_neg (Nat.lt_irrefl _)])
      clear hlt hk
      go_wp2
      go_ret
      exact ⟨by rw [HF.out]; rfl, rfl⟩
end Go.Proofs.Ytoinjnocopejjaa
