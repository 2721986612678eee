/- What is legal task by task is legal event by event. -/
import Derived.Test.YtgbcncfgpdlmiaaU4
namespace Go.Proofs.Ytgbcncfgpdlmiaa
open Go.ChangeShapes Go.WideShapes Go.ChangeAt Go.RowKit Go.Maps
set_option linter.unusedVariables false
set_option linter.unusedSimpArgs false

theorem legalR_snoc2 (tasks : Int) (e : Ev) : ∀ (L P : List Ev), legalR tasks P (L ++ [e]) = (legalR tasks P L && okE tasks (P ++ L) e) := by
  intro L
  induction L with
  | nil => exact fun P => by simp [legalR]
  | cons x L ih =>
    intro P
    show (okE tasks P x && legalR tasks (P ++ [x]) (L ++ [e])) = ((okE tasks P x && legalR tasks (P ++ [x]) L) && okE tasks (P ++ x :: L) e)
    rw [ih, Bool.and_assoc, List.append_assoc]; rfl
theorem many_snoc (L : List Ev) (e : Ev) (T : Nat) : many (L ++ [e]) T = many L T + if 0 ≤ e.2.1 ∧ e.2.1 < (T : Int) then 1 else 0 := by
  unfold many
  rw [List.filter_append, List.length_append]
  by_cases h : 0 ≤ e.2.1 ∧ e.2.1 < (T : Int) <;> simp [h]
theorem okT_snoc (L : List Ev) (e : Ev) (t : Int) : OkT (L ++ [e]) t ↔ OkT L t ∧ (e.2.1 = t → OkI (cnt L t) e) := by
  unfold OkT
  rw [List.filter_append]
  by_cases h : e.2.1 = t
  · rw [show [e].filter (fun e => decide (e.2.1 = t)) = [e] by simp [h]]
    have hc : cnt L t = (L.filter (fun e => decide (e.2.1 = t))).length := rfl
    rw [hc]
    generalize L.filter (fun e => decide (e.2.1 = t)) = F
    refine ⟨fun k => ⟨fun i x hx => k i x ?_, fun _ => k F.length e (by simp)⟩, fun k i x hx => ?_⟩
    · rw [List.getElem?_append_left (List.getElem?_eq_some_iff.1 hx).1]; exact hx
    · by_cases hi : i < F.length
      · rw [List.getElem?_append_left hi] at hx
        exact k.1 i x hx
      · have hl := (List.getElem?_eq_some_iff.1 hx).1
        rw [List.length_append] at hl
        obtain rfl : i = F.length := by simp at hl; omega
        simp at hx
        subst hx
        exact k.2 h
  · rw [show [e].filter (fun e => decide (e.2.1 = t)) = [] by simp [h], List.append_nil]
    exact ⟨fun k => ⟨k, fun h2 => absurd h2 h⟩, fun k => k.1⟩
theorem okE_iff {T : Nat} {L : List Ev} {e : Ev} : okE (T : Int) L e = true ↔ (0 ≤ e.2.1 ∧ e.2.1 < (T : Int)) ∧ OkI (cnt L e.2.1) e := by
  obtain ⟨wh, t, cl, a⟩ := e
  unfold okE nextE OkI
  rw [Bool.and_eq_true, decide_eq_true_eq, decide_eq_true_eq]
  simp only [Prod.mk.injEq, true_and]
  have h3 : cnt L t % 3 < 3 := Nat.mod_lt _ (by decide)
  constructor
  · rintro ⟨h1, h2, h4, h5⟩
    refine ⟨h1, h2, h4, fun h6 => ?_⟩
    rw [if_neg (by omega)] at h5
    exact h5
  · rintro ⟨h1, h2, h4, h5⟩
    refine ⟨h1, h2, h4, ?_⟩
    by_cases h6 : wh = 3
    · rw [if_pos h6]
    · rw [if_neg h6]; exact h5 (by omega)
theorem rlegal_snoc (T : Nat) (L : List Ev) (e : Ev) : RLegal T (L ++ [e]) ↔ RLegal T L ∧ okE (T : Int) L e = true := by
  rw [okE_iff]
  unfold RLegal
  rw [many_snoc, List.length_append]
  have hm := many_le L T
  constructor
  · rintro ⟨h1, h2⟩
    by_cases hr : 0 ≤ e.2.1 ∧ e.2.1 < (T : Int)
    · rw [if_pos hr] at h2
      refine ⟨⟨fun t ht => ((okT_snoc L e _).1 (h1 t ht)).1, by simp at h2; omega⟩, hr, ?_⟩
      have h3 := ((okT_snoc L e _).1 (h1 e.2.1.toNat (by omega))).2 (by omega)
      rwa [show ((e.2.1.toNat : Nat) : Int) = e.2.1 by omega] at h3
    · rw [if_neg hr] at h2
      simp at h2
      omega
  · rintro ⟨⟨h1, h2⟩, hr, h3⟩
    rw [if_pos hr]
    refine ⟨fun t ht => (okT_snoc L e _).2 ⟨h1 t ht, fun h4 => by rw [← h4]; exact h3⟩, by simp; omega⟩
theorem rlegal_nil (T : Nat) : RLegal T [] := ⟨fun t _ i e h => by simp at h, rfl⟩
theorem rlegal_iff (T : Nat) (L : List Ev) : RLegal T L ↔ legalR (T : Int) [] L = true := by
  obtain ⟨n, hn⟩ : ∃ n, L.length = n := ⟨_, rfl⟩
  induction n generalizing L with
  | zero =>
    obtain rfl := List.eq_nil_of_length_eq_zero hn
    exact ⟨fun _ => rfl, fun _ => rlegal_nil T⟩
  | succ n ih =>
    obtain ⟨M, e, rfl⟩ : ∃ M e, L = M ++ [e] := ⟨L.dropLast, L.getLast (by intro h; rw [h] at hn; cases hn), (List.dropLast_concat_getLast _).symm⟩
    rw [rlegal_snoc, legalR_snoc2, Bool.and_eq_true, List.nil_append, ih M (by simpa using hn)]
/-- the document's Legal tells what the program's does -/
theorem rlegalL_any (T : Nat) (A : Option Addr) (m c : Nat) (Rs : List RE) (w : World) (h : EvS w A m Rs) (hm : m ≤ 100000) (hp : ∀ r ∈ Rs, r.2.2.1 ≤ 100000) (hw : ∀ r ∈ Rs, 0 ≤ r.1.1 ∧ r.1.1 ≤ 255) (h1 : 1 ≤ T) (h6 : T ≤ 6) : Calls Try.prog 22 #[.int .i64 (T : Int), .slice A m c] w (Bl (legalL (T : Int) (Rs.map Prod.fst)) w) := by
  refine (rlegal_any T A m c Rs w h hm hp hw h1 h6).mono ?_
  rintro e w' ⟨b, rfl, k1, k2, hb⟩
  refine ⟨?_, hb⟩
  unfold legalL
  rw [decide_eq_true (by omega), Bool.true_and]
  cases b with
  | true => rw [(rlegal_iff T _).1 (k1 rfl)]
  | false =>
    rcases Bool.eq_false_or_eq_true (legalR (T : Int) [] (Rs.map Prod.fst)) with h3 | h3
    · exact absurd ((rlegal_iff T _).2 h3) (k2 rfl)
    · rw [h3]
end Go.Proofs.Ytgbcncfgpdlmiaa
