/- Too wide? -/
import Derived.Test.YtkgdmdcnhbaidaaDoorRD
import Derived.Test.YtkgdmdcnhbaidaaDoorLG
import Derived.StillTailTactics
namespace Go.Proofs.YtkgdmdcnhbaidaaDoor
open Go.ChangeShapes Go.WideShapes Go.ChangeAt Go.RowKit
set_option linter.unusedVariables false
set_option linter.unusedSimpArgs false

/-- an answer as it lies: with the header of its pairs -/
abbrev Am := As × (Option Addr × Nat × Nat)
def asE (x : Am) : List Value := [.int .i64 x.1.1, .bool x.1.2.1, .string x.1.2.2.1, .slice x.2.1 x.2.2.1 x.2.2.2]
def wdP : Int → List Pr → Int
  | x, [] => x
  | x, p :: l => if x < 9000 then wdP (x + 10 + mn p.1 + mn p.2) l else x
def wdS : Int → List Am → Int
  | x, [] => x
  | x, a :: l => wdS (wdP (x + mn a.1.2.2.1) a.1.2.2.2) l
theorem wdP_b : ∀ (l : List Pr) (x : Int), 0 ≤ x → 0 ≤ wdP x l ∧ wdP x l ≤ max x 27010
  | [], x, h => by unfold wdP; omega
  | p :: l, x, h => by
    have h1 := mn_b p.1
    have h2 := mn_b p.2
    unfold wdP
    split
    · have := wdP_b l (x + 10 + mn p.1 + mn p.2) (by omega)
      omega
    · omega
theorem wdS_app : ∀ (l m : List Am) (x : Int), wdS x (l ++ m) = wdS (wdS x l) m
  | [], m, x => rfl
  | a :: l, m, x => wdS_app l m _
theorem wdS_b : ∀ (l : List Am) (x : Int), 0 ≤ x → 0 ≤ wdS x l ∧ wdS x l ≤ x + 36010 * l.length
  | [], x, h => by unfold wdS; simp; omega
  | a :: l, x, h => by
    have h1 := mn_b a.1.2.2.1
    have h2 := wdP_b a.1.2.2.2 (x + mn a.1.2.2.1) (by omega)
    have h3 := wdS_b l (wdP (x + mn a.1.2.2.1) a.1.2.2.2) h2.1
    show 0 ≤ wdS (wdP (x + mn a.1.2.2.1) a.1.2.2.2) l ∧ wdS (wdP (x + mn a.1.2.2.1) a.1.2.2.2) l ≤ x + 36010 * ((l.length + 1 : Nat) : Int)
    omega
theorem wdP_big {x : Int} (l : List Pr) (h : ¬ x < 9000) : wdP x l = x := by
  cases l with
  | nil => rfl
  | cons p l => unfold wdP; rw [if_neg h]
theorem idx83 (g off m c k : Nat) (i : Int) (hi : i = (k : Int)) (h : k < m) (W : World) : (Instr.indexAt 83 (.slice (some ⟨g, off, none⟩) m c) (.int .i64 i)).run Tryd.prog W = .ok (.pointer (some ⟨g, off + k * 4, none⟩)) W := by
  subst hi
  have h1 : (0 : Int) ≤ (k : Int) ∧ (k : Int) < (m : Int) := by omega
  go_simp
set_option maxRecDepth 100000 in
set_option maxHeartbeats 16000000 in
theorem wide_any (A : Option Addr) (n c : Nat) (L : List Am) (w : World) (hS : RSl asE 4 w A n L) (hP : ∀ x ∈ L, RSl pvc 2 w x.2.1 x.2.2.1 x.1.2.2.2 ∧ x.2.2.1 ≤ maxLen) (hn : n ≤ 100000) : Calls Tryd.prog 20 #[.slice A n c] w fun e w' => e = .returned (.bool (decide (9000 ≤ wdS 0 L))) ∧ Below w.heap.size w w' := by
  have HS := Lib.hid hS
  have HPP := Lib.hid hP
  have HLN : Hid (L.length = n) := hS.1
  clear hS hP
  go_enter Tryd.func20, Tryd.ntmps20
  go_wp2
  go_loopw [3, 4] (fun s i W => ∃ (k : Nat), k ≤ n ∧ i = .int .i64 k ∧ s = .int .i64 (wdS 0 (L.take k)) ∧ Below w.heap.size w W) (fun _ i _ => n - (intOf i).toNat)
  case atStart => exact ⟨0, Nat.zero_le _, rfl, rfl, Below.refl _ _⟩
  case round =>
    obtain ⟨k, hk, rfl, rfl, hb⟩ := hrel
    have HBW := Lib.hid hb
    have hsb := wdS_b (L.take k) 0 (Int.le_refl _)
    have hsl : (L.take k).length ≤ k := by rw [List.length_take]; omega
    have HNX : Hid (∀ x, L[k]? = some x → wdS 0 (L.take (k + 1)) = wdP (wdS 0 (L.take k) + mn x.1.2.2.1) x.1.2.2.2) := Lib.hid (fun x hx => by
      rw [List.take_add_one, hx, wdS_app]; rfl)
    have HEQ : Hid (k = n → wdS 0 (L.take k) = wdS 0 L) := Lib.hid (fun h => by rw [h, ← HLN.out, List.take_length])
    obtain ⟨x, hx⟩ : ∃ x, wdS 0 (L.take k) = x := ⟨_, rfl⟩
    rw [hx] at HNX HEQ hsb ⊢
    clear hx hb
    by_cases hlt : k < n
    · have d2 : decide ((k : Int) < (n : Int)) = true := decide_eq_true (by omega)
      have wk : IntKind.i64.wrap ((k : Int) + 1) = (k : Int) + 1 := IntWalk.i64_in _ (by omega)
      obtain ⟨g, off, rfl, hg, hc⟩ := HS.out.2 (by omega)
      have i1 := idx83 g off n c k (k : Int) rfl hlt
      have hrk : L[k]? = some (L[k]'(by rw [HLN.out]; exact hlt)) := List.getElem?_eq_getElem _
      have hnx := HNX.out _ hrk
      generalize L[k]'(by rw [HLN.out]; exact hlt) = r at *
      obtain ⟨⟨er, fo, va, ps⟩, A2, n2, c2⟩ := r
      have HPK := Lib.hid (HPP.out _ (List.mem_of_getElem? hrk))
      simp only at HPK
      have Y2 : Hid (∀ W, Below w.heap.size w W → W.cell? ⟨g, off + k * 4 + 2, none⟩ = some (.string va)) := Lib.hid (fun W hW => (hW.cell (p := ⟨g, off + k * 4 + 2, none⟩) hg).trans (hc k _ hrk 2 (by decide)))
      have Y3 : Hid (∀ W, Below w.heap.size w W → W.cell? ⟨g, off + k * 4 + 3, none⟩ = some (.slice A2 n2 c2)) := Lib.hid (fun W hW => (hW.cell (p := ⟨g, off + k * 4 + 3, none⟩) hg).trans (hc k _ hrk 3 (by decide)))
      simp only at hnx
      have HN2 := Lib.hid hnx
      clear hc hrk hnx HNX HEQ hg
      have y2 := Y2.out wr HBW.out
      have y3 := Y3.out wr HBW.out
      have b1 := mn_b va
      have XB : Hid (0 ≤ x ∧ x ≤ 36010 * (k : Int)) := Lib.hid (by omega)
      have e1 : wrap64 (x + mn va) = x + mn va := by unfold wrap64; omega
      have HE1 : Hid (wrap64 (x + min 9000 (va.size : Int)) = x + mn va) := e1
      clear b1 hsb hsl e1
      obtain ⟨z, hz⟩ : ∃ z, wrap64 (x + min 9000 (va.size : Int)) = z := ⟨_, rfl⟩
      have HZ : Hid (z = x + mn va ∧ 0 ≤ z ∧ z ≤ 36010 * (k : Int) + 9000) := Lib.hid (by have h := HE1.out; rw [hz] at h; have := XB.out; have := mn_b va; omega)
      obtain ⟨hpk, hml⟩ := HPK.out
      have HPS := Lib.hid hpk
      have HPL : Hid (ps.length = n2) := hpk.1
      have HML := Lib.hid hml
      clear hpk hml HPK y2 HS HPP
      have y2 := Y2.out wr HBW.out
      go_wp2
      go_loopw [3, 5] (fun s i W => ∃ (j : Nat) (y : Int), j ≤ n2 ∧ i = .int .i64 j ∧ s = .int .i64 y ∧ wdP (x + mn va) ps = wdP y (ps.drop j) ∧ (0 ≤ y ∧ y ≤ 36010 * (k : Int) + 27010) ∧ Below w.heap.size w W) (fun _ i _ => n2 - (intOf i).toNat)
      case atStart => exact ⟨0, _, Nat.zero_le _, rfl, by rw [hz], by rw [HZ.out.1]; rfl, by have := HZ.out; omega, HBW.out⟩
      case round =>
        obtain ⟨j, y, hj, rfl, rfl, hy, hyb, hb⟩ := hrel
        have HY := Lib.hid hy
        have HYB := Lib.hid hyb
        have HBI := Lib.hid hb
        clear hy hyb y2 y3
        have y3 := Y3.out _ hb
        clear hb
        by_cases hjl : j < n2
        · have d3 : decide ((j : Int) < (n2 : Int)) = true := decide_eq_true (by omega)
          by_cases hyl : y < 9000
          · have d4 : decide (y < 9000) = true := decide_eq_true hyl
            have wj : IntKind.i64.wrap ((j : Int) + 1) = (j : Int) + 1 := IntWalk.i64_in _ (by have := HML.out; unfold maxLen at this; omega)
            obtain ⟨g2, off2, e2, hg2, hc2⟩ := HPS.out.2 (by omega)
            subst e2
            have i2 := idx35 g2 off2 n2 c2 j (j : Int) rfl hjl
            have hrk : ps[j]? = some (ps[j]'(by rw [HPL.out]; exact hjl)) := List.getElem?_eq_getElem _
            have hdr : ps.drop j = ps[j]'(by rw [HPL.out]; exact hjl) :: ps.drop (j + 1) := List.drop_eq_getElem_cons _
            generalize ps[j]'(by rw [HPL.out]; exact hjl) = r at *
            obtain ⟨ka, kv⟩ := r
            have z0 := (HBI.out.cell (p := ⟨g2, off2 + j * 2, none⟩) hg2).trans (hc2 j _ hrk 0 (by decide))
            have z1 := (HBI.out.cell (p := ⟨g2, off2 + j * 2 + 1, none⟩) hg2).trans (hc2 j _ hrk 1 (by decide))
            simp only [pvc, List.getElem?_cons_zero, List.getElem?_cons_succ] at z0 z1
            have b1 := mn_b ka
            have b2 := mn_b kv
            have HSTEP : Hid (wdP (x + mn va) ps = wdP (y + 10 + mn ka + mn kv) (ps.drop (j + 1))) := Lib.hid (by
              rw [HY.out, hdr, wdP, if_pos hyl])
            have HNB : Hid (0 ≤ y + 10 + mn ka + mn kv ∧ y + 10 + mn ka + mn kv ≤ 36010 * (k : Int) + 27010) := Lib.hid (by have := HYB.out; omega)
            have w0 : y + 10 ≤ 100000 ∧ 0 ≤ y + 10 := by have := HYB.out; omega
            have e0 : wrap64 (y + 10) = y + 10 := by unfold wrap64; omega
            unfold mn at b1 b2
            have e1 : wrap64 (y + 10 + min 9000 (ka.size : Int)) = y + 10 + min 9000 (ka.size : Int) := by unfold wrap64; omega
            have e2 : wrap64 (y + 10 + min 9000 (ka.size : Int) + min 9000 (kv.size : Int)) = y + 10 + min 9000 (ka.size : Int) + min 9000 (kv.size : Int) := by unfold wrap64; omega
            have HM : Hid (wrap64 (wrap64 (wrap64 (y + 10) + min 9000 (ka.size : Int)) + min 9000 (kv.size : Int)) = y + 10 + mn ka + mn kv) := Lib.hid (by rw [e0, e1, e2]; rfl)
            clear hrk hdr hc2 hg2 b1 b2 e0 e1 e2 w0 hyl
            go_wp2
            go_quiet (fail)
            go_wp2
            all_goals (
              go_roundw
              case rel => exact ⟨j + 1, y + 10 + mn ka + mn kv, by omega, by go_num, by rw [← HM.out], HSTEP.out, HNB.out, below_drewN HBI.out _⟩
              case measure => simp [intOf]; omega)
          · have d4 : decide (y < 9000) = false := decide_eq_false hyl
            have HEND : Hid (wdP (x + mn va) ps = y) := Lib.hid (by rw [HY.out]; exact wdP_big _ hyl)
            clear hyl
            go_wp2
            go_roundw
            case rel => exact ⟨k + 1, by omega, by go_num, by rw [HN2.out, HEND.out], HBI.out⟩
            case measure => simp [intOf]; omega
        · obtain rfl : j = n2 := by omega
          have d3 : decide ((j : Int) < (j : Int)) = false := decide_eq_false (by omega)
          have HEND : Hid (wdP (x + mn va) ps = y) := Lib.hid (by rw [HY.out, ← HPL.out, List.drop_length]; rfl)
          go_wp2
          go_roundw
          case rel => exact ⟨k + 1, by omega, by go_num, by rw [HN2.out, HEND.out], HBI.out⟩
          case measure => simp [intOf]; omega
    · obtain rfl : k = n := by omega
      have d2 : decide ((k : Int) < (k : Int)) = false := decide_eq_false (by omega)
      have he := HEQ.out rfl
      have HEE := Lib.hid he
      clear he HEQ HNX hsb hsl
      go_wp2
      go_ret
      exact ⟨by rw [← HEE.out]; rfl, HBW.out⟩
end Go.Proofs.YtkgdmdcnhbaidaaDoor
