/- KA, KB, KC in one. -/
import Derived.Test.YtoinjnocopejjaaSl
import Derived.Test.YtoinjnocopejjaaMA
import Derived.WalkKit
import Derived.ProofKit
import Derived.LoopTactic
import Derived.Below
import Derived.BigQuiet
import Derived.Deep.QuietTactic
import Derived.Laws.OwnMore
import Derived.OwnWalk
import Derived.Lib.Hide
import Derived.Outline
import Derived.IntWalk
import Derived.WalkSpells
import Derived.WalkLawsBesides
import Derived.RegionTactic
import Derived.Deep.RegionWith
import Derived.Deep.RegionHeld3
import Derived.Deep.DeepCutAuto
import Derived.Deep.CutBlock
/- Versions in memory; whether two lists are the same. -/
namespace Go.Proofs.Ytoinjnocopejjaa
open Go.ChangeShapes Go.WideShapes Go.ChangeAt Go.RowKit
set_option linter.unusedVariables false
def Ver.agg (v : Ver) : Value := .agg #[.int .i64 v.w, .int .i64 v.ts, .bool v.tomb, .string v.val]
theorem Ver.agg_eq (v : Ver) : v.agg = .agg #[.int .i64 v.w, .int .i64 v.ts, .bool v.tomb, .string v.val] := rfl
/-- the four cells of a version -/
structure VerAt (W : World) (g o : Nat) (v : Ver) : Prop where
  c0 : W.cell? ⟨g, o, none⟩ = some (.int .i64 v.w)
  c1 : W.cell? ⟨g, o + 1, none⟩ = some (.int .i64 v.ts)
  c2 : W.cell? ⟨g, o + 1 + 1, none⟩ = some (.bool v.tomb)
  c3 : W.cell? ⟨g, o + 1 + 1 + 1, none⟩ = some (.string v.val)
theorem VerAt.below {n₀ : Nat} {W W' : World} {g o : Nat} {v : Ver} (h : VerAt W g o v) (hb : Below n₀ W W') (hg : g < n₀) : VerAt W' g o v :=
  ⟨(hb.cell (p := ⟨g, o, none⟩) hg).trans h.c0, (hb.cell (p := ⟨g, o + 1, none⟩) hg).trans h.c1, (hb.cell (p := ⟨g, o + 1 + 1, none⟩) hg).trans h.c2, (hb.cell (p := ⟨g, o + 1 + 1 + 1, none⟩) hg).trans h.c3⟩
/-- a slice that reads as versions, in a block below a number; nil let in -/
def Vers (n₀ : Nat) (W : World) (A : Option Addr) (n : Nat) (vs : List Ver) : Prop :=
  vs.length = n ∧ (0 < n → ∃ g off, A = some ⟨g, off, none⟩ ∧ g < n₀ ∧ ∀ j, j < n → VerAt W g (off + j * 4) (vs.getD j ver0))
theorem Vers.below {n₀ : Nat} {W W' : World} {A : Option Addr} {n : Nat} {vs : List Ver} (h : Vers n₀ W A n vs) (hb : Below n₀ W W') : Vers n₀ W' A n vs :=
  ⟨h.1, fun hn => by
    obtain ⟨g, off, hA, hg, hc⟩ := h.2 hn
    exact ⟨g, off, hA, hg, fun j hj => (hc j hj).below hb hg⟩⟩
theorem Vers.mono {n₀ n₁ : Nat} {W : World} {A : Option Addr} {n : Nat} {vs : List Ver} (h : Vers n₀ W A n vs) (hn : n₀ ≤ n₁) : Vers n₁ W A n vs :=
  ⟨h.1, fun hp => by
    obtain ⟨g, off, hA, hg, hc⟩ := h.2 hp
    exact ⟨g, off, hA, Nat.lt_of_lt_of_le hg hn, hc⟩⟩
theorem index_run (g off m c k : Nat) (i : Int) (hi : i = (k : Int)) (h : k < m) (W : World) : (Instr.indexAt 38 (.slice (some ⟨g, off, none⟩) m c) (.int .i64 i)).run Try.prog W = .ok (.pointer (some ⟨g, off + k * 4, none⟩)) W := by
  subst hi
  have h1 : (0 : Int) ≤ (k : Int) ∧ (k : Int) < (m : Int) := by omega
  go_simp
end Go.Proofs.Ytoinjnocopejjaa

/- Whether two lists of versions are the same, by the document's words and by the library's. -/
namespace Go.Proofs.Ytoinjnocopejjaa
open Go.ChangeShapes Go.WideShapes Go.ChangeAt Go.RowKit
set_option linter.unusedVariables false
def sameB (a b : List Ver) : Bool := decide (a.length = b.length) && (a.zip b).all fun p => verB p.1 p.2
theorem sameB_yes {a b : List Ver} : sameB a b = true ↔ a = b := by
  unfold sameB
  simp only [Bool.and_eq_true, decide_eq_true_eq, List.all_eq_true]
  constructor
  · rintro ⟨hl, h⟩
    apply List.ext_getElem hl
    intro i h1 h2
    have := h (a[i], b[i]) (by
      rw [List.mem_iff_getElem]
      exact ⟨i, by rw [List.length_zip]; omega, by simp⟩)
    exact verB_yes.1 this
  · rintro rfl
    refine ⟨rfl, fun p hp => ?_⟩
    obtain ⟨i, hi, he⟩ := List.mem_iff_getElem.1 hp
    simp at he
    rw [← he]
    exact verB_self _
theorem sameB_no {a b : List Ver} (h : a ≠ b) : sameB a b = false := by
  cases e : sameB a b
  · rfl
  · exact absurd (sameB_yes.1 e) h
theorem ne_cases {a b : Ver} (h : a ≠ b) : ((a.w == b.w) = false) ∨ ((a.w == b.w) = true ∧ (a.ts == b.ts) = false) ∨ ((a.w == b.w) = true ∧ (a.ts == b.ts) = true ∧ (a.tomb == b.tomb) = false) ∨
    ((a.w == b.w) = true ∧ (a.ts == b.ts) = true ∧ (a.tomb == b.tomb) = true ∧ (a.val.toList == b.val.toList) = false) := by
  by_cases h0 : a.w = b.w
  · by_cases h1 : a.ts = b.ts
    · by_cases h2 : a.tomb = b.tomb
      · refine .inr (.inr (.inr ⟨by rw [beq_iff_eq]; exact h0, by rw [beq_iff_eq]; exact h1, by rw [beq_iff_eq]; exact h2, ?_⟩))
        rw [beq_eq_false_iff_ne, ByteArray.toList_eq, ByteArray.toList_eq]
        exact fun e => h (Ver.ext' h0 h1 h2 (ByteArray.ext (Array.toList_inj.1 e)))
      · exact .inr (.inr (.inl ⟨by rw [beq_iff_eq]; exact h0, by rw [beq_iff_eq]; exact h1, by rw [beq_eq_false_iff_ne]; exact h2⟩))
    · exact .inr (.inl ⟨by rw [beq_iff_eq]; exact h0, by rw [beq_eq_false_iff_ne]; exact h1⟩)
  · exact .inl (by rw [beq_eq_false_iff_ne]; exact h0)
theorem seq_yes {x y : ByteArray} (h : x = y) : (x.toList == y.toList) = true := by rw [h]; simp
theorem not_true_of {b : Bool} (h : b = false) : (!b) = true := by rw [h]; rfl
theorem not_false_of {b : Bool} (h : b = true) : (!b) = false := by rw [h]; rfl
set_option maxRecDepth 100000 in
set_option maxHeartbeats 2000000 in
theorem rsame_any (A A' : Option Addr) (n m c c' : Nat) (vs us : List Ver) (w : World) (hs : Vers w.heap.size w A n vs) (hu : Vers w.heap.size w A' m us) (hn : n ≤ 1000000) (hm : m ≤ 1000000) :
    Calls Try.prog 72 #[.slice A n c, .slice A' m c'] w fun e w' => e = .returned (.bool (sameB vs us)) ∧ ∃ d, w' = w.drewN d := by
  have Hs := Lib.hid hs
  have Hu := Lib.hid hu
  clear hs hu
  by_cases hnm : n = m
  · obtain rfl := hnm
    go_enter Try.func72, Try.ntmps72
    go_wp2
    go_loopw [5] (fun i wr => ∃ k : Nat, k ≤ n ∧ i = .int .i64 k ∧ (∀ j, j < k → vs.getD j ver0 = us.getD j ver0) ∧ ∃ d, wr = w.drewN d) (fun i _ => n - (intOf i).toNat)
    case atStart => exact ⟨0, by omega, rfl, fun j hj => by omega, 0, rfl⟩
    case round =>
      obtain ⟨k, hk, rfl, hall, d, rfl⟩ := hrel
      have Hall := Lib.hid hall
      clear hall
      by_cases hlt : k < n
      · obtain ⟨g, off, rfl, hg, hc⟩ := Hs.out.2 (by omega)
        obtain ⟨g', off', rfl, hg', hc'⟩ := Hu.out.2 (by omega)
        have hck := hc k hlt
        have hck' := hc' k hlt
        obtain ⟨v, hv⟩ : ∃ v, vs.getD k ver0 = v := ⟨_, rfl⟩
        obtain ⟨u, hu⟩ : ∃ u, us.getD k ver0 = u := ⟨_, rfl⟩
        rw [hv] at hck
        rw [hu] at hck'
        have Hv := Lib.hid hv
        have Hu2 := Lib.hid hu
        obtain ⟨a0, a1, a2, a3⟩ := hck
        obtain ⟨b0, b1, b2, b3⟩ := hck'
        have hx1 := index_run g off n c k (k : Int) rfl hlt
        have hx2 := index_run g' off' n c' k (k : Int) rfl hlt
        clear hc hc' hv hu
        by_cases he : v = u
        · subst he
          have Hall2 : Hid (∀ j, j < k + 1 → vs.getD j ver0 = us.getD j ver0) := fun j hj => by
            by_cases e : j = k
            · subst e; rw [Hv.out, Hu2.out]
            · exact Hall.out j (by omega)
          go_wp2
          go_quiet (fail)
          clear a0 a1 a2 a3 b0 b1 b2 b3 hx1 hx2
          go_wp2
          go_roundw
          case rel => exact ⟨k + 1, by omega, by go_num, Hall2.out, d + nq, by first | rfl | simp⟩
          case measure => simp [intOf]; omega
        · have HR : Hid (sameB vs us = false) := sameB_no (fun e => he (by rw [← Hv.out, ← Hu2.out, e]))
          rcases ne_cases he with h | ⟨h, h'⟩ | ⟨h, h', h''⟩ | ⟨h, h', h'', h3⟩
          all_goals
            clear he
            go_wp2
            go_quiet (fail)
            clear a0 a1 a2 a3 b0 b1 b2 b3 hx1 hx2
            go_wp2
            go_ret
            exact ⟨ret_bool HR.out.symm, d + nq, by first | rfl | simp⟩
      · obtain rfl : k = n := by omega
        have HR : Hid (sameB vs us = true) := sameB_yes.2 (by
          apply List.ext_getElem (by rw [Hs.out.1, Hu.out.1])
          intro i h1 h2
          have := Hall.out i (by have := Hs.out.1; omega)
          rwa [List.getD_eq_getElem?_getD, List.getD_eq_getElem?_getD, List.getElem?_eq_getElem h1, List.getElem?_eq_getElem h2] at this)
        go_wp2
        go_ret
        exact ⟨ret_bool HR.out.symm, d, rfl⟩
  · have HR : Hid (sameB vs us = false) := sameB_no (fun e => hnm (by rw [← Hs.out.1, ← Hu.out.1, e]))
    have h1 : ((n : Int) != (m : Int)) = true := by rw [bne_iff_ne]; omega
    go_enter Try.func72, Try.ntmps72
    go_wp2
    go_ret
    exact ⟨ret_bool HR.out.symm, 0, rfl⟩
end Go.Proofs.Ytoinjnocopejjaa

/- Which lists may be; whether there is a clash. -/
namespace Go.Proofs.Ytoinjnocopejjaa
open Go.ChangeShapes Go.WideShapes Go.ChangeAt Go.RowKit
set_option linter.unusedVariables false
theorem boxed4 (w : World) (v : Ver) (T : TypeId) : VerAt (w.alloc (.cells #[.int .i64 v.w, .int .i64 v.ts, .bool v.tomb, .string v.val] T)) w.heap.size 0 v := by
  have h : ∀ j, (w.alloc (.cells #[.int .i64 v.w, .int .i64 v.ts, .bool v.tomb, .string v.val] T)).cell? ⟨w.heap.size, j, none⟩ = (#[.int .i64 v.w, .int .i64 v.ts, .bool v.tomb, .string v.val] : Array Value)[j]? := fun j => by
    unfold World.cell?
    rw [heap_alloc_new w _]
    rfl
  exact ⟨h 0, h 1, h 2, h 3⟩
set_option maxHeartbeats 1000000 in
theorem clash_any (A : Option Addr) (n c : Nat) (vs : List Ver) (s : Int) (w : World) (hs : Vers w.heap.size w A n vs) (hn : n ≤ 1000000) :
    Calls Try.prog 101 #[.slice A n c, .int .i64 s] w fun e w' => e = .returned (.bool (clashB vs s)) ∧ w = w' := by
  have Hs := Lib.hid hs
  clear hs
  by_cases h0 : 0 < n
  · obtain ⟨g, off, rfl, hg, hc⟩ := Hs.out.2 h0
    have c1 : w.cell? ⟨g, off + 1, none⟩ = some (.int .i64 (vs.getD 0 ver0).ts) := by have := (hc 0 h0).c1; rwa [Nat.zero_mul, Nat.add_zero] at this
    have dn : decide ((0 : Int) < (n : Int)) = true := decide_eq_true (by omega)
    have dnn : decide (0 < n) = true := decide_eq_true (by omega)
    have HE : Hid (clashB vs s = decide (s < (vs.getD 0 ver0).ts)) := by
      show _ = _; unfold clashB; rw [Hs.out.1, decide_eq_decide]; omega
    obtain ⟨t, ht⟩ : ∃ t, (vs.getD 0 ver0).ts = t := ⟨_, rfl⟩
    rw [ht] at c1 HE
    clear hc ht
    go_enter Try.func101, Try.ntmps101
    go_wp2
    trace_state
    go_ret
    exact ⟨by rw [HE.out]; rfl, rfl⟩
  · have dn : decide ((0 : Int) < (n : Int)) = false := decide_eq_false (by omega)
    have dnn : decide (0 < n) = false := decide_eq_false (by omega)
    have HE : Hid (clashB vs s = false) := by
      show _ = _; unfold clashB; rw [Hs.out.1]; exact decide_eq_false (fun h => h0 h.1)
    clear h0
    go_enter Try.func101, Try.ntmps101
    go_wp2
    go_ret
    exact ⟨ret_bool HE.out.symm, rfl⟩
end Go.Proofs.Ytoinjnocopejjaa
