/- Whether texts are more than a law goes over; Make's answers at any values. -/
import Derived.Test.YthghaagmpneemaaRB
import Derived.Test.YthghaagmpneemaaZ
namespace Go.Proofs.Ythghaagmpneemaa
open Go.ChangeShapes Go.WideShapes Go.ChangeAt Go.RowKit
set_option linter.unusedVariables false
def tot : List ByteArray → Nat
  | [] => 0
  | s :: l => tot l + (10 + s.size)
theorem tot_app : ∀ (l m : List ByteArray), tot (l ++ m) = tot l + tot m
  | [], m => by simp [tot]
  | s :: l, m => by simp [tot, tot_app l m]; omega
theorem tot_take (l : List ByteArray) (k : Nat) (h : k < l.length) : tot (l.take (k + 1)) = tot (l.take k) + (10 + (l.getD k ⟨#[]⟩).size) := by
  rw [List.take_succ_eq_append_getElem h, tot_app, List.getD_eq_getElem?_getD, List.getElem?_eq_getElem h]; simp [tot]
theorem tot_take_le (l : List ByteArray) (k : Nat) : tot (l.take k) ≤ tot l := by
  have := tot_app (l.take k) (l.drop k)
  rw [List.take_append_drop] at this; omega
theorem tot_mem : ∀ (l : List ByteArray) (s : ByteArray), s ∈ l → s.size ≤ tot l
  | x :: l, s, h => by
    rcases List.mem_cons.1 h with e | e
    · subst e; simp [tot]; omega
    · have := tot_mem l s e; simp [tot]; omega
theorem tot_len : ∀ (l : List ByteArray), 10 * l.length ≤ tot l
  | [] => by simp
  | x :: l => by have := tot_len l; simp [tot]; omega
def largeB (l : List ByteArray) : Bool := decide (20000 ≤ tot l)
set_option maxRecDepth 100000 in
set_option maxHeartbeats 1000000 in
theorem large_any (A : Option Addr) (n c : Nat) (ss : List ByteArray) (w : World) (hs : Strs w.heap.size w A n ss) (hr : ∀ s ∈ ss, s.size ≤ reachBytes) (hn : n ≤ maxLen) :
    Calls Try.prog 12 #[.slice A n c] w fun e w' => e = .returned (.bool (largeB ss)) ∧ w = w' := by
  unfold maxLen at hn
  have hre : reachBytes = 140737488351232 := by decide
  have Hr : Hid (∀ s ∈ ss, s.size ≤ 140737488351232) := by rw [← hre]; exact hr
  have Hs := Lib.hid hs
  clear hs hr hre
  go_enter Try.func12, Try.ntmps12
  go_wp2
  go_loop [3, 4] (fun t i => ∃ k : Nat, k ≤ n ∧ i = .int .i64 k ∧ t = .int .i64 (tot (ss.take k) : Nat)) (fun _ i => n - (intOf i).toNat)
  case atStart => exact ⟨0, by omega, rfl, rfl⟩
  case round =>
    obtain ⟨k, hk, rfl, rfl⟩ := hrel
    by_cases hlt : k < n
    · have hlen : ss.length = n := Hs.out.1
      have ht := tot_take ss k (by omega)
      obtain ⟨g, off, rfl, hg, hc⟩ := Hs.out.2 (by omega)
      have hck := hc k hlt
      have hz : (ss.getD k ⟨#[]⟩).size ≤ 140737488351232 := Hr.out _ (by
        rw [List.getD_eq_getElem?_getD, List.getElem?_eq_getElem (by omega)]; exact List.getElem_mem _)
      obtain ⟨d, hd⟩ : ∃ d, ss.getD k ⟨#[]⟩ = d := ⟨_, rfl⟩
      rw [hd] at hck hz ht
      have Ht := Lib.hid ht
      have htl := tot_take_le ss k
      by_cases hb : tot (ss.take k) < 20000
      · obtain ⟨x, hx⟩ : ∃ x, tot (ss.take k) = x := ⟨_, rfl⟩
        rw [hx] at hb ⊢
        rw [hx] at Ht
        clear hc hd ht htl hx hlen
        go_wp2
        go_round
        case rel => exact ⟨k + 1, by omega, by go_num, by rw [Ht.out]; go_num⟩
        case measure => simp [intOf]; omega
      · have HL : Hid (largeB ss = true) := by show _ = _; unfold largeB; rw [decide_eq_true_eq]; omega
        obtain ⟨x, hx⟩ : ∃ x, tot (ss.take k) = x := ⟨_, rfl⟩
        rw [hx] at hb ⊢
        clear hc hd ht htl hx hlen Ht hck hz
        go_wp2
        go_ret
        have hxd : decide ((20000 : Int) ≤ (x : Int)) = true := decide_eq_true (by omega)
        refine ⟨?_, rfl⟩
        rw [HL.out, ← hxd]
        rfl
    · obtain rfl : k = n := by omega
      have HL : Hid (decide ((20000 : Int) ≤ (tot (ss.take k) : Int)) = largeB ss) := by
        show _ = _
        unfold largeB
        rw [List.take_of_length_le (by rw [Hs.out.1]; exact Nat.le_refl _), decide_eq_decide]; omega
      obtain ⟨x, hx⟩ : ∃ x, tot (ss.take k) = x := ⟨_, rfl⟩
      rw [hx] at HL ⊢
      clear hx
      go_wp2
      all_goals go_ret
      all_goals exact ⟨by rw [← HL.out]; simp_all, rfl⟩
theorem large_no {ss : List ByteArray} (h : largeB ss = false) : (∀ s ∈ ss, s.size ≤ 1000000) ∧ ss.length ≤ 2000 := by
  have h1 : ¬ 20000 ≤ tot ss := of_decide_eq_false h
  refine ⟨fun s hs => ?_, ?_⟩
  · have := tot_mem ss s hs; omega
  · have := tot_len ss; omega
/-- Make's answer -/
def makeR (a b : ByteArray) : ByteArray × Int := if a.size ≤ 256 ∧ b.size ≤ 256 then (str (mk (bl a) (bl b)), 0) else (⟨#[]⟩, 40)
theorem makeR_size (a b : ByteArray) : (makeR a b).1.size ≤ 300 := by
  unfold makeR
  by_cases h : a.size ≤ 256 ∧ b.size ≤ 256
  · rw [if_pos h]; show (str _).size ≤ _; rw [str_size, mk_len, bl_len]; omega
  · rw [if_neg h]; exact Nat.zero_le _
theorem make_all (a b : ByteArray) (w : World) : Calls Try.prog 9 #[.string a, .string b] w fun e w' => e = .returned (.tuple #[.string (makeR a b).1, .int .i64 (makeR a b).2]) ∧ Below w.heap.size w w' := by
  unfold makeR
  by_cases h : a.size ≤ 256 ∧ b.size ≤ 256
  · rw [if_pos h]; exact make_yes a b w h.1 h.2
  · rw [if_neg h]
    refine (make_no a b w h).mono ?_
    rintro e w' ⟨he, rfl⟩
    exact ⟨he, Below.refl _ _⟩
theorem rmake_all (a b : ByteArray) (w : World) : Calls Try.prog 13 #[.string a, .string b] w fun e w' => e = .returned (.tuple #[.string (makeR a b).1, .int .i64 (makeR a b).2]) ∧ Below w.heap.size w w' := by
  unfold makeR
  by_cases h : a.size ≤ 256 ∧ b.size ≤ 256
  · rw [if_pos h]; exact rmake_yes a b w h.1 h.2
  · rw [if_neg h]
    refine (rmake_no a b w h).mono ?_
    rintro e w' ⟨he, rfl⟩
    exact ⟨he, Below.refl _ _⟩
end Go.Proofs.Ythghaagmpneemaa
