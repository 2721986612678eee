/- Too many turns? -/
import Derived.Test.YtoinjnocopejjaaOC
import Derived.Test.YtoinjnocopejjaaSA
import Derived.Deep.QuietTactic
import Derived.BigQuiet
namespace Go.Proofs.Ytoinjnocopejjaa
open Go.ChangeShapes Go.WideShapes Go.ChangeAt Go.RowKit Go.Maps
set_option linter.unusedVariables false
set_option linter.unusedSimpArgs false
def mn (s : ByteArray) : Int := min 9000 (s.size : Int)
def lg1 (x : Cl) : Int := 60 + mn x.2.2.1 + mn x.2.2.2.1 + mn x.2.2.2.2.1
def lgT : List Tn → Int
  | [] => 0
  | x :: l => lg1 x.2 + lgT l
theorem mn_b (s : ByteArray) : 0 ≤ mn s ∧ mn s ≤ 9000 := by unfold mn; omega
theorem lg1_b (x : Cl) : 60 ≤ lg1 x ∧ lg1 x ≤ 27060 := by
  have h1 := mn_b x.2.2.1
  have h2 := mn_b x.2.2.2.1
  have h3 := mn_b x.2.2.2.2.1
  unfold lg1; omega
theorem lgT_app : ∀ l m : List Tn, lgT (l ++ m) = lgT l + lgT m
  | [], m => by show lgT m = 0 + _; omega
  | x :: l, m => by show lg1 x.2 + lgT (l ++ m) = lg1 x.2 + lgT l + _; rw [lgT_app l m]; omega
theorem lgT_b : ∀ l : List Tn, 60 * (l.length : Int) ≤ lgT l
  | [] => by show (60 * ((0 : Nat) : Int)) ≤ 0; omega
  | x :: l => by
    have h1 := lg1_b x.2
    have h2 := lgT_b l
    show 60 * ((l.length + 1 : Nat) : Int) ≤ lg1 x.2 + lgT l
    omega
theorem lgT_take (l : List Tn) (k : Nat) : lgT (l.take k) ≤ lgT l := by
  have h := lgT_app (l.take k) (l.drop k)
  rw [List.take_append_drop] at h
  have := lgT_b (l.drop k)
  omega
theorem lg_len {l : List Tn} (h : lgT l < 12000) : l.length < 200 := by
  have := lgT_b l; omega
theorem idx55 (g off m c k : Nat) (i : Int) (hi : i = (k : Int)) (h : k < m) (W : World) : (Instr.indexAt 55 (.slice (some ⟨g, off, none⟩) m c) (.int .i64 i)).run Try.prog W = .ok (.pointer (some ⟨g, off + k * 8, none⟩)) W := by
  subst hi
  have h1 : (0 : Int) ≤ (k : Int) ∧ (k : Int) < (m : Int) := by omega
  go_simp
set_option maxRecDepth 100000 in
set_option maxHeartbeats 1600000 in
theorem large_any (A : Option Addr) (n c : Nat) (L : List Tn) (w : World) (hS : RSl tnE 8 w A n L) : Calls Try.prog 32 #[.slice A n c] w fun e w' => e = .returned (.bool (decide (12000 ≤ lgT L))) ∧ Below w.heap.size w w' := by
  have HS := Lib.hid hS
  have HLN : Hid (L.length = n) := hS.1
  clear hS
  go_enter Try.func32, Try.ntmps32
  go_wp2
  go_loopw [3, 4] (fun s i W => ∃ (k : Nat), k ≤ n ∧ i = .int .i64 k ∧ s = .int .i64 (lgT (L.take k)) ∧ Below w.heap.size w W) (fun _ i _ => n - (intOf i).toNat)
  case atStart => exact ⟨0, Nat.zero_le _, rfl, rfl, Below.refl _ _⟩
  case round =>
    obtain ⟨k, hk, rfl, rfl, hb⟩ := hrel
    have HBW := Lib.hid hb
    have hsb := lgT_b (L.take k)
    have hsl : (L.take k).length = k := by rw [List.length_take, HLN.out]; omega
    rw [hsl] at hsb
    have HNX : Hid (∀ x, L[k]? = some x → lgT (L.take (k + 1)) = lgT (L.take k) + (60 + mn x.2.2.2.1 + mn x.2.2.2.2.1 + mn x.2.2.2.2.2.1)) := Lib.hid (fun x hx => by
      rw [List.take_add_one, hx, lgT_app]
      show _ + (lg1 x.2 + 0) = _
      unfold lg1; omega)
    have HEQ : Hid (k = n → lgT (L.take k) = lgT L) := Lib.hid (fun h => by rw [h, ← HLN.out, List.take_length])
    have HLE : Hid (lgT (L.take k) ≤ lgT L) := Lib.hid (lgT_take L k)
    obtain ⟨x, hx⟩ : ∃ x, lgT (L.take k) = x := ⟨_, rfl⟩
    rw [hx] at HNX HEQ HLE hsb ⊢
    clear hx hb hsl
    by_cases hlt : k < n
    · have d2 : decide ((k : Int) < (n : Int)) = true := decide_eq_true (by omega)
      by_cases hx12 : x < 12000
      · have d3 : decide (x < 12000) = true := decide_eq_true hx12
        have wk : IntKind.i64.wrap ((k : Int) + 1) = (k : Int) + 1 := IntWalk.i64_in _ (by omega)
        obtain ⟨g, off, rfl, hg, hc⟩ := (HS.out.later HBW.out).2 (by omega)
        have i1 := idx55 g off n c k (k : Int) rfl hlt
        have hrk : L[k]? = some (L[k]'(by rw [HLN.out]; exact hlt)) := List.getElem?_eq_getElem _
        have hnx := HNX.out _ hrk
        generalize L[k]'(by rw [HLN.out]; exact hlt) = r at *
        obtain ⟨ta, kn, tx, ke, en, va, li, eg⟩ := r
        have y1 : wr.cell? ⟨g, off + k * 8 + 1, none⟩ = some (.int .u8 kn) := hc k _ hrk 1 (by decide)
        have y2 : wr.cell? ⟨g, off + k * 8 + 1 + 1, none⟩ = some (.int .i64 tx) := hc k _ hrk 2 (by decide)
        have y3 : wr.cell? ⟨g, off + k * 8 + 1 + 2, none⟩ = some (.string ke) := hc k _ hrk 3 (by decide)
        have y4 : wr.cell? ⟨g, off + k * 8 + 1 + 3, none⟩ = some (.string en) := hc k _ hrk 4 (by decide)
        have y5 : wr.cell? ⟨g, off + k * 8 + 1 + 4, none⟩ = some (.string va) := hc k _ hrk 5 (by decide)
        have y6 : wr.cell? ⟨g, off + k * 8 + 1 + 5, none⟩ = some (.int .i64 li) := hc k _ hrk 6 (by decide)
        have y7 : wr.cell? ⟨g, off + k * 8 + 1 + 6, none⟩ = some (.int .u8 eg) := hc k _ hrk 7 (by decide)
        simp only at hnx
        have HN2 := Lib.hid hnx
        clear hc hrk hnx HNX HEQ HLE
        have b1 := mn_b ke
        have b2 := mn_b en
        have b3 := mn_b va
        unfold mn at HN2 b1 b2 b3
        have e0 : wrap64 (x + 60) = x + 60 := by unfold wrap64; omega
        have e1 : wrap64 (x + 60 + min 9000 (ke.size : Int)) = x + 60 + min 9000 (ke.size : Int) := by unfold wrap64; omega
        have e2 : wrap64 (x + 60 + min 9000 (ke.size : Int) + min 9000 (en.size : Int)) = x + 60 + min 9000 (ke.size : Int) + min 9000 (en.size : Int) := by unfold wrap64; omega
        have e3 : wrap64 (x + 60 + min 9000 (ke.size : Int) + min 9000 (en.size : Int) + min 9000 (va.size : Int)) = x + 60 + min 9000 (ke.size : Int) + min 9000 (en.size : Int) + min 9000 (va.size : Int) := by unfold wrap64; omega
        have HM : Hid (lgT (L.take (k + 1)) = wrap64 (wrap64 (wrap64 (wrap64 (x + 60) + min 9000 (ke.size : Int)) + min 9000 (en.size : Int)) + min 9000 (va.size : Int))) := Lib.hid (by rw [HN2.out, e0, e1, e2, e3]; omega)
        have HBA : Hid (Below w.heap.size w (wr.alloc (.cells #[.int .u8 kn, .int .i64 tx, .string ke, .string en, .string va, .int .i64 li, .int .u8 eg] 36))) := Lib.hid (HBW.out.alloc HBW.out.size _)
        clear HN2 hsb b1 b2 b3 e0 e1 e2 e3 hx12
        go_wp2
        refine ⟨⟨k + 1, by omega, by go_num, by rw [HM.out], HBA.out⟩, ?_⟩
        simp [intOf]; omega
      · have d3 : decide (x < 12000) = false := decide_eq_false hx12
        have d4 : decide (12000 ≤ x) = true := decide_eq_true (by omega)
        have HEE : Hid (decide (12000 ≤ lgT L) = true) := Lib.hid (decide_eq_true (by have := HLE.out; omega))
        clear HNX HEQ HLE hsb
        go_wp2
        go_ret
        exact ⟨by rw [HEE.out]; rfl, HBW.out⟩
    · obtain rfl : k = n := by omega
      have d2 : decide ((k : Int) < (k : Int)) = false := decide_eq_false (by omega)
      have he := HEQ.out rfl
      have HEE := Lib.hid he
      clear he HEQ HNX HLE hsb
      go_wp2
      go_ret
      exact ⟨by rw [← HEE.out]; rfl, HBW.out⟩
end Go.Proofs.Ytoinjnocopejjaa
