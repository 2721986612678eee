/- Too long? -/
import Derived.Test.YtkgdmdcnhbaidaaDoorM
import Derived.Deep.QuietTactic
import Derived.BigQuiet
namespace Go.Proofs.YtkgdmdcnhbaidaaDoor
open Go.ChangeShapes Go.WideShapes Go.ChangeAt Go.RowKit
set_option linter.unusedVariables false
set_option linter.unusedSimpArgs false

def clE (x : Cl) : List Value := [.int .u8 x.1, .int .i64 x.2.1, .string x.2.2.1, .string x.2.2.2.1, .string x.2.2.2.2.1, .int .i64 x.2.2.2.2.2.1, .int .u8 x.2.2.2.2.2.2]
def mn (s : ByteArray) : Int := min 9000 (s.size : Int)
def lg1 (x : Cl) : Int := mn x.2.2.1 + mn x.2.2.2.1 + mn x.2.2.2.2.1
def lgS : List Cl → Int
  | [] => 0
  | x :: l => lg1 x + lgS l
theorem mn_b (s : ByteArray) : 0 ≤ mn s ∧ mn s ≤ 9000 := by unfold mn; omega
theorem lg1_b (x : Cl) : 0 ≤ lg1 x ∧ lg1 x ≤ 27000 := by
  have h1 := mn_b x.2.2.1
  have h2 := mn_b x.2.2.2.1
  have h3 := mn_b x.2.2.2.2.1
  unfold lg1; omega
theorem lgS_app : ∀ l m : List Cl, lgS (l ++ m) = lgS l + lgS m
  | [], m => by show lgS m = 0 + _; omega
  | x :: l, m => by show lg1 x + lgS (l ++ m) = lg1 x + lgS l + _; rw [lgS_app l m]; omega
theorem lgS_b : ∀ l : List Cl, 0 ≤ lgS l ∧ lgS l ≤ 27000 * l.length
  | [] => ⟨Int.le_refl _, by show (0 : Int) ≤ _; simp⟩
  | x :: l => by
    have h1 := lg1_b x
    have h2 := lgS_b l
    show 0 ≤ lg1 x + lgS l ∧ lg1 x + lgS l ≤ 27000 * ((l.length + 1 : Nat) : Int)
    omega
theorem idx87 (g off m c k : Nat) (i : Int) (hi : i = (k : Int)) (h : k < m) (W : World) : (Instr.indexAt 87 (.slice (some ⟨g, off, none⟩) m c) (.int .i64 i)).run Tryd.prog W = .ok (.pointer (some ⟨g, off + k * 7, none⟩)) W := by
  subst hi
  have h1 : (0 : Int) ≤ (k : Int) ∧ (k : Int) < (m : Int) := by omega
  go_simp
set_option maxRecDepth 100000 in
set_option maxHeartbeats 16000000 in
theorem long_any (A : Option Addr) (n c : Nat) (L : List Cl) (w : World) (hS : RSl clE 7 w A n L) (hn : n ≤ 100000000) : Calls Tryd.prog 24 #[.slice A n c] w fun e w' => e = .returned (.bool (decide (9000 ≤ lgS L))) ∧ Below w.heap.size w w' := by
  have HS := Lib.hid hS
  have HLN : Hid (L.length = n) := hS.1
  clear hS
  go_enter Tryd.func24, Tryd.ntmps24
  go_wp2
  go_loopw [3, 4] (fun s i W => ∃ (k : Nat), k ≤ n ∧ i = .int .i64 k ∧ s = .int .i64 (lgS (L.take k)) ∧ Below w.heap.size w W) (fun _ i _ => n - (intOf i).toNat)
  case atStart => exact ⟨0, Nat.zero_le _, rfl, rfl, Below.refl _ _⟩
  case round =>
    obtain ⟨k, hk, rfl, rfl, hb⟩ := hrel
    have HBW := Lib.hid hb
    have hsb := lgS_b (L.take k)
    have hsl : (L.take k).length ≤ k := by rw [List.length_take]; omega
    have HNX : Hid (∀ x, L[k]? = some x → lgS (L.take (k + 1)) = lgS (L.take k) + (mn x.2.2.1 + mn x.2.2.2.1 + mn x.2.2.2.2.1)) := Lib.hid (fun x hx => by
      rw [List.take_add_one, hx, lgS_app]
      show _ + (lg1 x + 0) = _
      unfold lg1; omega)
    have HEQ : Hid (k = n → lgS (L.take k) = lgS L) := Lib.hid (fun h => by rw [h, ← HLN.out, List.take_length])
    obtain ⟨x, hx⟩ : ∃ x, lgS (L.take k) = x := ⟨_, rfl⟩
    rw [hx] at HNX HEQ hsb ⊢
    clear hx hb
    by_cases hlt : k < n
    · have d2 : decide ((k : Int) < (n : Int)) = true := decide_eq_true (by omega)
      have wk : IntKind.i64.wrap ((k : Int) + 1) = (k : Int) + 1 := IntWalk.i64_in _ (by omega)
      obtain ⟨g, off, rfl, hg, hc⟩ := (HS.out.later HBW.out).2 (by omega)
      have i1 := idx87 g off n c k (k : Int) rfl hlt
      have hrk : L[k]? = some (L[k]'(by rw [HLN.out]; exact hlt)) := List.getElem?_eq_getElem _
      have hnx := HNX.out _ hrk
      generalize L[k]'(by rw [HLN.out]; exact hlt) = r at *
      obtain ⟨kn, tx, ke, en, va, li, eg⟩ := r
      have y2 : wr.cell? ⟨g, off + k * 7 + 2, none⟩ = some (.string ke) := hc k _ hrk 2 (by decide)
      have y3 : wr.cell? ⟨g, off + k * 7 + 3, none⟩ = some (.string en) := hc k _ hrk 3 (by decide)
      have y4 : wr.cell? ⟨g, off + k * 7 + 4, none⟩ = some (.string va) := hc k _ hrk 4 (by decide)
      simp only at hnx
      have HN2 := Lib.hid hnx
      clear hc hrk hnx HNX HEQ
      have b1 := mn_b ke
      have b2 := mn_b en
      have b3 := mn_b va
      unfold mn at HN2 b1 b2 b3
      have e1 : wrap64 (x + min 9000 (ke.size : Int)) = x + min 9000 (ke.size : Int) := by unfold wrap64; omega
      have e2 : wrap64 (x + min 9000 (ke.size : Int) + min 9000 (en.size : Int)) = x + min 9000 (ke.size : Int) + min 9000 (en.size : Int) := by unfold wrap64; omega
      have e3 : wrap64 (x + min 9000 (ke.size : Int) + min 9000 (en.size : Int) + min 9000 (va.size : Int)) = x + min 9000 (ke.size : Int) + min 9000 (en.size : Int) + min 9000 (va.size : Int) := by unfold wrap64; omega
      have HM : Hid (lgS (L.take (k + 1)) = wrap64 (wrap64 (wrap64 (x + min 9000 (ke.size : Int)) + min 9000 (en.size : Int)) + min 9000 (va.size : Int))) := Lib.hid (by rw [HN2.out, e1, e2, e3]; omega)
      clear HN2 hsb hsl b1 b2 b3 e1 e2 e3
      go_wp2
      go_quiet (fail)
      go_wp2
      all_goals (
        go_roundw
        case rel => exact ⟨k + 1, by omega, by go_num, by rw [HM.out], below_drewN HBW.out _⟩
        case measure => simp [intOf]; omega)
    · obtain rfl : k = n := by omega
      have d2 : decide ((k : Int) < (k : Int)) = false := decide_eq_false (by omega)
      have he := HEQ.out rfl
      have HEE := Lib.hid he
      clear he HEQ HNX hsb hsl
      go_wp2
      go_ret
      exact ⟨by rw [← HEE.out]; rfl, HBW.out⟩
end Go.Proofs.YtkgdmdcnhbaidaaDoor
