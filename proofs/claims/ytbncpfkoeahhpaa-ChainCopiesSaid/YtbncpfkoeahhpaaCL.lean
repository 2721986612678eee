/- The same versions? -/
import Derived.Test.YtbncpfkoeahhpaaCK
namespace Go.Proofs.Ytbncpfkoeahhpaa
open Go.ChangeShapes Go.WideShapes Go.ChangeAt Go.RowKit Go.Maps
set_option linter.unusedVariables false
set_option linter.unusedSimpArgs false

def vn0 : Vn := (0, 0, false, { data := #[] })
theorem ne_cases {a b : Vn} (h : a ≠ b) : ((a.1 == b.1) = false) ∨ ((a.1 == b.1) = true ∧ (a.2.1 == b.2.1) = false) ∨ ((a.1 == b.1) = true ∧ (a.2.1 == b.2.1) = true ∧ (a.2.2.1 == b.2.2.1) = false) ∨
    ((a.1 == b.1) = true ∧ (a.2.1 == b.2.1) = true ∧ (a.2.2.1 == b.2.2.1) = true ∧ (a.2.2.2.toList == b.2.2.2.toList) = false) := by
  obtain ⟨a1, a2, a3, a4⟩ := a
  obtain ⟨b1, b2, b3, b4⟩ := b
  simp only
  by_cases h0 : a1 = b1
  · by_cases h1 : a2 = b2
    · by_cases h2 : a3 = b3
      · refine .inr (.inr (.inr ⟨by rw [beq_iff_eq]; exact h0, by rw [beq_iff_eq]; exact h1, by rw [beq_iff_eq]; exact h2, ?_⟩))
        rw [beq_eq_false_iff_ne, ByteArray.toList_eq, ByteArray.toList_eq]
        exact fun e => h (by rw [h0, h1, h2, ByteArray.ext (Array.toList_inj.1 e)])
      · exact .inr (.inr (.inl ⟨by rw [beq_iff_eq]; exact h0, by rw [beq_iff_eq]; exact h1, by rw [beq_eq_false_iff_ne]; exact h2⟩))
    · exact .inr (.inl ⟨by rw [beq_iff_eq]; exact h0, by rw [beq_eq_false_iff_ne]; exact h1⟩)
  · exact .inl (by rw [beq_eq_false_iff_ne]; exact h0)
theorem index_run (g off m c k : Nat) (i : Int) (hi : i = (k : Int)) (h : k < m) (W : World) : (Instr.indexAt 38 (.slice (some ⟨g, off, none⟩) m c) (.int .i64 i)).run Try.prog W = .ok (.pointer (some ⟨g, off + k * 4, none⟩)) W := by
  subst hi
  have h1 : (0 : Int) ≤ (k : Int) ∧ (k : Int) < (m : Int) := by omega
  go_simp
theorem rsl_at {W : World} {A : Option Addr} {n k : Nat} {L : List Vn} (h : RSl vec 4 W A n L) (hk : k < n) : ∃ g off, A = some ⟨g, off, none⟩ ∧ g < W.heap.size ∧ W.cell? ⟨g, off + k * 4, none⟩ = some (.int .i64 (L.getD k vn0).1) ∧ W.cell? ⟨g, off + k * 4 + 1, none⟩ = some (.int .i64 (L.getD k vn0).2.1) ∧ W.cell? ⟨g, off + k * 4 + 2, none⟩ = some (.bool (L.getD k vn0).2.2.1) ∧ W.cell? ⟨g, off + k * 4 + 3, none⟩ = some (.string (L.getD k vn0).2.2.2) := by
  obtain ⟨g, off, hA, hg, hc⟩ := h.2 (by omega)
  have hx : L[k]? = some (L.getD k vn0) := by
    have : k < L.length := by rw [h.1]; exact hk
    rw [List.getElem?_eq_getElem this, List.getD_eq_getElem?_getD, List.getElem?_eq_getElem this]; rfl
  exact ⟨g, off, hA, hg, hc k _ hx 0 (by decide), hc k _ hx 1 (by decide), hc k _ hx 2 (by decide), hc k _ hx 3 (by decide)⟩
set_option maxRecDepth 100000 in
set_option maxHeartbeats 8000000 in
theorem same_any (A A' : Option Addr) (n m c c' : Nat) (L M : List Vn) (w : World) (hs : RSl vec 4 w A n L) (hu : RSl vec 4 w A' m M) (hn : n ≤ 1000000000) (hm : m ≤ 1000000000) :
    Calls Try.prog 42 #[.slice A n c, .slice A' m c'] w fun e w' => e = .returned (.bool (decide (L = M))) ∧ ∃ d, w' = w.drewN d := by
  have Hs := Lib.hid hs
  have Hu := Lib.hid hu
  clear hs hu
  by_cases hnm : n = m
  · obtain rfl := hnm
    go_enter Try.func42, Try.ntmps42
    go_wp2
    go_loopw [5] (fun i wr => ∃ k : Nat, k ≤ n ∧ i = .int .i64 k ∧ (∀ j, j < k → L.getD j vn0 = M.getD j vn0) ∧ ∃ d, wr = w.drewN d) (fun i _ => n - (intOf i).toNat)
    case atStart => exact ⟨0, by omega, rfl, fun j hj => by omega, 0, rfl⟩
    case round =>
      obtain ⟨k, hk, rfl, hall, d, rfl⟩ := hrel
      have Hall := Lib.hid hall
      clear hall
      by_cases hlt : k < n
      · obtain ⟨g, off, rfl, hg, a0, a1, a2, a3⟩ := rsl_at Hs.out hlt
        obtain ⟨g', off', rfl, hg', b0, b1, b2, b3⟩ := rsl_at Hu.out hlt
        obtain ⟨v, hv⟩ : ∃ v, L.getD k vn0 = v := ⟨_, rfl⟩
        obtain ⟨u, hu⟩ : ∃ u, M.getD k vn0 = u := ⟨_, rfl⟩
        rw [hv] at a0 a1 a2 a3
        rw [hu] at b0 b1 b2 b3
        have Hv := Lib.hid hv
        have Hu2 := Lib.hid hu
        have hx1 := index_run g off n c k (k : Int) rfl hlt
        have hx2 := index_run g' off' n c' k (k : Int) rfl hlt
        clear hv hu
        by_cases he : v = u
        · subst he
          have Hall2 : Hid (∀ j, j < k + 1 → L.getD j vn0 = M.getD j vn0) := fun j hj => by
            by_cases e : j = k
            · subst e; rw [Hv.out, Hu2.out]
            · exact Hall.out j (by omega)
          go_wp2
          go_quiet (fail)
          clear a0 a1 a2 a3 b0 b1 b2 b3 hx1 hx2
          go_wp2
          go_roundw
          case rel => exact ⟨k + 1, by omega, by go_num, Hall2.out, d + nq, by first | rfl | simp⟩
          case measure => simp [intOf]; omega
        · have HR : Hid (decide (L = M) = false) := decide_eq_false (fun e => he (by rw [← Hv.out, ← Hu2.out, e]))
          rcases ne_cases he with h | ⟨h, h'⟩ | ⟨h, h', h''⟩ | ⟨h, h', h'', h3⟩
          all_goals
            clear he
            go_wp2
            go_quiet (fail)
            clear a0 a1 a2 a3 b0 b1 b2 b3 hx1 hx2
            go_wp2
            go_ret
            exact ⟨ret_bool HR.out.symm, d + nq, by first | rfl | simp⟩
      · obtain rfl : k = n := by omega
        have HR : Hid (decide (L = M) = true) := decide_eq_true (by
          apply List.ext_getElem (by rw [Hs.out.1, Hu.out.1])
          intro i h1 h2
          have := Hall.out i (by have := Hs.out.1; omega)
          rwa [List.getD_eq_getElem?_getD, List.getD_eq_getElem?_getD, List.getElem?_eq_getElem h1, List.getElem?_eq_getElem h2] at this)
        go_wp2
        go_ret
        exact ⟨ret_bool HR.out.symm, d, rfl⟩
  · have HR : Hid (decide (L = M) = false) := decide_eq_false (fun e => hnm (by rw [← Hs.out.1, ← Hu.out.1, e]))
    have h1 : ((n : Int) != (m : Int)) = true := by rw [bne_iff_ne]; omega
    go_enter Try.func42, Try.ntmps42
    go_wp2
    go_ret
    exact ⟨ret_bool HR.out.symm, 0, rfl⟩
set_option maxRecDepth 100000 in
set_option maxHeartbeats 4000000 in
theorem lists_any (A A' : Option Addr) (n m c c' : Nat) (L M : List Vn) (w : World) (hs : RSl vec 4 w A n L) (hu : RSl vec 4 w A' m M) (hn : n ≤ 1000000000) (hm : m ≤ 1000000000) :
    Calls Try.prog 22 #[.slice A n c, .slice A' m c'] w fun e w' => e = .returned (.bool (decide (L = M))) ∧ ∃ d, w' = w.drewN d := by
  have HSM := Lib.hid (same_any A A' n m c c' L M w hs hu hn hm)
  clear hs hu hn hm
  go_enter Try.func22, Try.ntmps22
  go_wp2_with fail
  refine HSM.out.mono ?_
  rintro e _ ⟨rfl, d, rfl⟩
  clear HSM
  go_wp2
  go_ret
  exact ⟨rfl, d, rfl⟩
end Go.Proofs.Ytbncpfkoeahhpaa
