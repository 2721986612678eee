/- A newer version ahead of a list. -/
import Derived.Test.YteelhldioaaffaaL
import Derived.Test.YteelhldioaaffaaM
namespace Go.Proofs.Yteelhldioaaffaa
open Go.ChangeShapes Go.WideShapes Go.ChangeAt Go.RowKit Go.Deep Go.Joins
set_option linter.unusedVariables false
set_option linter.unusedSimpArgs false
theorem upto_cons_ge {u : Ver} {vs : List Ver} {s : Int} (h : u.ts ≤ s) : upto (u :: vs) s = 0 := by simp [upto, h]
theorem upto_cons_lt {u : Ver} {vs : List Ver} {s : Int} (h : ¬ u.ts ≤ s) : upto (u :: vs) s = upto vs s + 1 := by simp [upto, h]
theorem seenB_cons_ge {u : Ver} {vs : List Ver} {s : Int} (h : u.ts ≤ s) : seenB (u :: vs) s = !u.tomb := by
  unfold seenB; rw [upto_cons_ge h]; simp
theorem seen_cons_ge {u : Ver} {vs : List Ver} {s : Int} (h : u.ts ≤ s) (ht : u.tomb = false) : seen (u :: vs) s = u := by
  unfold seen; rw [seenB_cons_ge h, ht, upto_cons_ge h]; rfl
theorem clash_cons_ge {u : Ver} {vs : List Ver} {s : Int} (h : u.ts ≤ s) : clashB (u :: vs) s = false := by
  unfold clashB; simp; omega
theorem seenB_cons_lt {u : Ver} {vs : List Ver} {s : Int} (h : ¬ u.ts ≤ s) : seenB (u :: vs) s = seenB vs s := by
  unfold seenB; rw [upto_cons_lt h]; simp
theorem seen_cons_lt {u : Ver} {vs : List Ver} {s : Int} (h : ¬ u.ts ≤ s) : seen (u :: vs) s = seen vs s := by
  unfold seen; rw [seenB_cons_lt h, upto_cons_lt h]; simp
theorem clash_cons_lt {u : Ver} {vs : List Ver} {s : Int} (h : ¬ u.ts ≤ s) : clashB (u :: vs) s = true := by
  unfold clashB; simp; omega
section
variable {H : Type} {enc : TypeId × Value → H} {P : Program}
theorem weight_at {ts us : List TypeId} {ds gs : List (DataW H)} (h : (DataW.weightsEach P (ts ++ us) (ds ++ gs)).all (· ≤ reachBytes) = true) {j : Nat} {t : TypeId} {d : DataW H} (ht : ts[j]? = some t) (hd : ds[j]? = some d) :
    ∀ n ∈ d.weights P t, n ≤ reachBytes := fun n hn => by
  have := List.all_eq_true.1 h n (DataW.weights_mem_each (j := j) (by rw [List.getElem?_append_left (List.getElem?_eq_some_iff.1 ht).1]; exact ht) (by rw [List.getElem?_append_left (List.getElem?_eq_some_iff.1 hd).1]; exact hd) n hn)
  simpa using this
theorem bytes27 : Try.prog.bytesOf 27 = 40 := by kernel_rfl
/-- how long a slice of versions may be that is handed in -/
theorem vers_weight {W : World} {A : Option Addr} {n c : Nat} {d : DataW H} {ps : List MemPlace}
    (h : DataW.Trod enc Try.prog W 0 (fun _ => true) true 24 (.slice A n c) d ps) (hw : ∀ x ∈ d.weights Try.prog 24, x ≤ reachBytes) : n * 40 ≤ reachBytes := by
  obtain ⟨fuel, hf⟩ := h
  rcases open_slice Try.underlying24 hf with ⟨hcs, _⟩ | ⟨a, len, cap, m, n1, D, Pl, hcs, hb, hl, hm, hmm, hx, hi⟩
  · simp [Value.cells] at hcs
    obtain ⟨_, rfl, _⟩ := hcs
    exact Nat.zero_le _
  · simp [Value.cells] at hcs
    obtain ⟨_, rfl, rfl⟩ := hcs
    have hd := congrArg Prod.fst hx
    dsimp only at hd
    have := hw ((n + (m - n)) * 40) (by
      rw [hd]
      simp only [DataW.weights, Try.underlying24, List.length_map, List.length_range, bytes27]
      exact List.mem_cons_self)
    have h2 : n * 40 ≤ (n + (m - n)) * 40 := Nat.mul_le_mul_right _ (by omega)
    omega
end
end Go.Proofs.Yteelhldioaaffaa
