/- How long the texts of steps may be; how many steps a statement goes over. -/
import Derived.Test.YtjkohdenmiljpaaY2
namespace Go.Proofs.Ytjkohdenmiljpaa
open Go.ChangeShapes Go.WideShapes Go.ChangeAt Go.RowKit Go.Maps Go.Deep Go.Joins
set_option linter.unusedVariables false
set_option linter.unusedSimpArgs false

section
variable {H : Type} {enc : TypeId × Value → H}
theorem weight_at {ts us : List TypeId} {ds gs : List (DataW H)} (h : (DataW.weightsEach Try.prog (ts ++ us) (ds ++ gs)).all (· ≤ reachBytes) = true) {j : Nat} {t : TypeId} {d : DataW H} (ht : ts[j]? = some t) (hd : ds[j]? = some d) :
    ∀ n ∈ d.weights Try.prog t, n ≤ reachBytes := fun n hn => by
  have := List.all_eq_true.1 h n (DataW.weights_mem_each (j := j) (by rw [List.getElem?_append_left (List.getElem?_eq_some_iff.1 ht).1]; exact ht) (by rw [List.getElem?_append_left (List.getElem?_eq_some_iff.1 hd).1]; exact hd) n hn)
  simpa using this
theorem weights_all (e : TypeId) : ∀ (l : List (DataW H)) (d : DataW H) (n : Nat), d ∈ l → n ∈ d.weights Try.prog e → n ∈ DataW.weightsAll Try.prog e l
  | [], d, n, h, _ => by cases h
  | x :: l, d, n, h, hn => by
    show n ∈ DataW.weights Try.prog e x ++ DataW.weightsAll Try.prog e l
    rw [List.mem_append]
    rcases List.mem_cons.1 h with rfl | h
    · exact .inl hn
    · exact .inr (weights_all e l d n h hn)
theorem stp_weight {W : World} {base : Nat} {spare : Nat → Bool} {held : Bool} {fuel : Nat} {cs : List Value} {x : DataW H × List MemPlace} (h : DataW.trod enc Try.prog W base spare held fuel 47 cs = some x) :
    ∃ t : ByteArray, cs[3]? = some (.string t) ∧ t.size ∈ x.1.weights Try.prog 47 := by
  obtain ⟨f0, f1, f2, f3, hu, t0, t1, t2, t3, o0, o1, o2, o3⟩ := u47
  obtain ⟨y0, y1, y2, y3, n, hx, hl, h0, h1, h2, h3⟩ := trod_struct4 hu h
  obtain ⟨c0, c1, c2, c3, rfl⟩ := list4 (hl.trans cells47)
  rw [t3, o3, cells9] at h3
  obtain ⟨d, e3, hd, _⟩ := DataW.trod_string Try.underlying9 h3
  simp at e3
  subst e3
  refine ⟨d, rfl, ?_⟩
  rw [hx]
  simp only [DataW.weights, hu]
  show d.size ∈ DataW.weightsEach Try.prog [f0.type, f1.type, f2.type, f3.type] _
  have hy : y3.1 = .lit (.string d.data.toList) := by rw [hd]
  simp only [DataW.weightsEach, List.mem_append, t3, hy, DataW.weights]
  simp
theorem steps_w {W : World} {A : Option Addr} {n c : Nat} {S : List Stp} {d : DataW H} {ps : List MemPlace} (hS : Steps W.heap.size W A n S)
    (h : DataW.Trod enc Try.prog W 0 (fun _ => true) true 40 (.slice A n c) d ps) (hw : ∀ x ∈ d.weights Try.prog 40, x ≤ reachBytes) : ∀ j, j < n → (S.getD j stp0).2.2.2.size ≤ reachBytes := fun j hj => by
  obtain ⟨fuel, hf⟩ := h
  obtain ⟨g, off, rfl, hg, hc⟩ := hS.2 (by omega)
  rcases open_slice Try.underlying40 hf with ⟨hcs, _⟩ | ⟨a, len, cap, m, n1, D, Pl, hcs, hb, hl, hm, hmm, hx, hi⟩
  · simp [Value.cells] at hcs
  · simp [Value.cells] at hcs
    obtain ⟨rfl, rfl, rfl⟩ := hcs
    simp only [if_true] at hmm
    subst hmm
    have hd : d = .slice ((List.range n).map D) ((List.range (m - n)).map fun j => D (n + j)) := congrArg Prod.fst hx
    obtain ⟨cs', hcc, ht⟩ := hi j (by omega)
    rw [cells47] at hcc
    obtain ⟨t, h3, hwt⟩ := stp_weight ht
    obtain ⟨_, _, hat⟩ := World.cells?_some hcc
    have h4 := hat 3 (by omega)
    rw [add_plain, add_plain] at h4
    have h5 := (hc j hj).1.c3
    rw [h4, h3] at h5
    have he : t = (S.getD j stp0).2.2.2 := by simpa using h5
    rw [← he]
    refine hw _ ?_
    rw [hd]
    simp only [DataW.weights, Try.underlying40]
    refine List.mem_cons_of_mem _ (List.mem_append.2 (.inl (weights_all 47 _ (D j) _ ?_ hwt)))
    exact List.mem_map.2 ⟨j, List.mem_range.2 hj, rfl⟩
end
def LongIs (n : Nat) (w : World) (e : Ending) (w' : World) : Prop := ∃ r : Bool, e = .returned (.bool r) ∧ w = w' ∧ (r = false → n ≤ 2000)
theorem longis {n : Nat} {w : World} {r : Bool} (h : r = false → n ≤ 2000) : LongIs n w (.returned (.bool r)) w := ⟨r, rfl, rfl, h⟩
set_option maxRecDepth 100000 in
set_option maxHeartbeats 4000000 in
theorem long_is (A : Option Addr) (n c : Nat) (S : List Stp) (w : World) (hS : Steps w.heap.size w A n S) (hn : n ≤ maxLen) (hz : ∀ j, j < n → (S.getD j stp0).2.2.2.size ≤ reachBytes) : Calls Try.prog 20 #[.slice A n c] w (LongIs n w) := by
  have HS := Lib.hid hS
  have HZ := Lib.hid hz
  unfold maxLen at hn
  clear hS hz
  go_enter Try.func20, Try.ntmps20
  go_wp2
  go_loop [3, 4] (fun s i => ∃ (k : Nat) (x : Int), k ≤ n ∧ i = .int .i64 k ∧ s = .int .i64 x ∧ 10 * (k : Int) ≤ x ∧ x ≤ 4000000000000000) (fun _ i => n - (intOf i).toNat)
  case atStart => exact ⟨0, 0, Nat.zero_le _, rfl, rfl, by omega, by omega⟩
  case round =>
    obtain ⟨k, x, hk, rfl, rfl, hx0, hx1⟩ := hrel
    by_cases hlt : k < n
    · have d2 : decide ((k : Int) < (n : Int)) = true := decide_eq_true (by omega)
      have wk : IntKind.i64.wrap ((k : Int) + 1) = (k : Int) + 1 := IntWalk.i64_in _ (by omega)
      by_cases hx : x < 20000
      · have d3 : decide (x < 20000) = true := decide_eq_true hx
        obtain ⟨g, off, rfl, hg, hcell⟩ := HS.out.2 (by omega)
        have x3 := (hcell k hlt).1.c3
        have i1 := sindex g off n c k (k : Int) rfl hlt
        have hzk := HZ.out k hlt
        unfold reachBytes at hzk
        generalize (S.getD k stp0).2.2.2 = t at *
        have w1 : IntKind.i64.wrap (x + 10) = x + 10 := IntWalk.i64_in _ (by omega)
        have w2 : IntKind.i64.wrap (x + 10 + (t.size : Int)) = x + 10 + (t.size : Int) := IntWalk.i64_in _ (by omega)
        clear hcell
        go_wp2
        go_round
        case rel => exact ⟨k + 1, x + 10 + (t.size : Int), by omega, by go_num, rfl, by omega, by omega⟩
        case measure => simp [intOf]; omega
      · have d3 : decide (x < 20000) = false := decide_eq_false hx
        have d4 : decide (20000 ≤ x) = true := decide_eq_true (by omega)
        go_wp2
        go_ret
        exact longis (fun h => by cases h)
    · obtain rfl : k = n := by omega
      have d2 : decide ((k : Int) < (k : Int)) = false := decide_eq_false (by omega)
      have HXX : Hid (10 * (k : Int) ≤ x) := hx0
      clear hx0
      go_wp2
      go_ret
      exact longis (fun h => by have := of_decide_eq_false h; have := HXX.out; omega)
end Go.Proofs.Ytjkohdenmiljpaa
