/- The document's words: at, digit, split. -/
import Derived.Test.YtkgdmdcnhbaidaaDoorY3
import Derived.Test.YtkgdmdcnhbaidaaDoorRE
namespace Go.Proofs.YtkgdmdcnhbaidaaDoor
open Go.ChangeShapes Go.WideShapes Go.ChangeAt Go.RowKit
set_option linter.unusedVariables false
set_option linter.unusedSimpArgs false

def wdc (s : ByteArray) : List Value := [.string s]
theorem wdc_len (s : ByteArray) : (wdc s).length = 1 := rfl
theorem elemW : RElem wdc 1 Tryd.prog 25 9 16 where
  und := Tryd.underlying25
  info := by
    have h : (Tryd.prog.info? 9).map (fun i => (i.zero, i.size, i.bytes)) = some (some (.string ByteArray.empty), 1, 16) := by kernel_rfl
    cases hi : Tryd.prog.info? 9 with
    | none => rw [hi] at h; cases h
    | some i => rw [hi] at h; simp only [Option.map_some, Option.some.injEq, Prod.mk.injEq] at h; exact ⟨i, _, rfl, h.1, h.2.1, h.2.2, rfl⟩
  pos := by decide
  len := wdc_len
  one := fun x u hu => by simp [wdc] at hu; subst hu; rfl
theorem idx25o (g off m c k : Nat) (i : Int) (hi : i = (k : Int)) (h : k < m) (W : World) : (Instr.indexAt 25 (.slice (some ⟨g, off, none⟩) m c) (.int .i64 i)).run Tryd.prog W = .ok (.pointer (some ⟨g, off + k, none⟩)) W := by
  subst hi
  have h1 : (0 : Int) ≤ (k : Int) ∧ (k : Int) < (m : Int) := by omega
  go_simp
theorem wdc_at {W : World} {A : Option Addr} {n k : Nat} {L : List ByteArray} {s : ByteArray} (h : RSl wdc 1 W A n L) (hk : L[k]? = some s) : ∃ g off, A = some ⟨g, off, none⟩ ∧ W.cell? ⟨g, off + k, none⟩ = some (.string s) := by
  have hl := (List.getElem?_eq_some_iff.1 hk).1
  obtain ⟨g, off, e, _, hc⟩ := h.2 (by have := h.1; omega)
  refine ⟨g, off, e, ?_⟩
  have h2 := hc k s hk 0 (by decide)
  rw [Nat.mul_one, Nat.add_zero] at h2
  exact h2
set_option maxRecDepth 100000 in
set_option maxHeartbeats 4000000 in
theorem rat_any (A : Option Addr) (n c : Nat) (L : List ByteArray) (k : Nat) (w : World) (h : RSl wdc 1 w A n L) : Calls Tryd.prog 44 #[.slice A n c, .int .i64 (k : Int)] w fun e w' => e = .returned (.string (L.getD k emp)) ∧ w' = w := by
  have hl := h.1
  by_cases hk : n ≤ k
  · have d1 : decide ((n : Int) ≤ (k : Int)) = true := decide_eq_true (by omega)
    have d1' : decide (n ≤ k) = true := decide_eq_true hk
    have e : L.getD k emp = emp := by rw [List.getD_eq_getElem?_getD, List.getElem?_eq_none (by omega)]; rfl
    rw [e]
    unfold emp
    clear e h hl hk
    go_enter Tryd.func44, Tryd.ntmps44
    go_wp2
    go_ret
    exact ⟨rfl, rfl⟩
  · have d1 : decide ((n : Int) ≤ (k : Int)) = false := decide_eq_false (by omega)
    have d1' : decide (n ≤ k) = false := decide_eq_false hk
    have hx : L[k]? = some (L.getD k emp) := by rw [List.getD_eq_getElem?_getD, List.getElem?_eq_getElem (by omega)]; rfl
    obtain ⟨g, off, rfl, hc⟩ := wdc_at h hx
    generalize L.getD k emp = x at *
    have i1 := idx25o g off n c k (k : Int) rfl (by omega)
    clear h hl hk hx
    go_enter Tryd.func44, Tryd.ntmps44
    go_wp2
    go_ret
    exact ⟨rfl, rfl⟩
/-- what a hexadecimal digit says -/
def dgN (c : Nat) : Nat := if 97 ≤ c then (c - 97 + 10) % 256 else (c + 208) % 256
theorem dg_hi : ∀ c : Fin 256, 97 ≤ c.1 → IntKind.u8.wrap ((c.1 : Int) - 97) = ((c.1 - 97 : Nat) : Int) ∧ IntKind.u8.wrap (((c.1 - 97 : Nat) : Int) + 10) = (dgN c.1 : Int) := by decide +kernel
theorem dg_lo : ∀ c : Fin 256, ¬ 97 ≤ c.1 → IntKind.u8.wrap ((c.1 : Int) - 48) = (dgN c.1 : Int) := by decide +kernel
set_option maxRecDepth 100000 in
set_option maxHeartbeats 4000000 in
theorem rdigit_any (c : Nat) (hc : c < 256) (w : World) : Calls Tryd.prog 57 #[.int .u8 (c : Int)] w fun e w' => e = .returned (.int .u8 (dgN c : Int)) ∧ w' = w := by
  by_cases h : 97 ≤ c
  · have d1 : decide ((97 : Int) ≤ (c : Int)) = true := decide_eq_true (by omega)
    obtain ⟨e1, e2⟩ := dg_hi ⟨c, hc⟩ h
    simp only at e1 e2
    obtain ⟨m, hm⟩ : ∃ m, c - 97 = m := ⟨_, rfl⟩
    obtain ⟨r, hr⟩ : ∃ r, dgN c = r := ⟨_, rfl⟩
    rw [hm] at e1 e2
    rw [hr] at e2 ⊢
    clear h hm hr
    go_enter Tryd.func57, Tryd.ntmps57
    go_wp2
    go_ret
    exact ⟨rfl, rfl⟩
  · have d1 : decide ((97 : Int) ≤ (c : Int)) = false := decide_eq_false (by omega)
    have e1 := dg_lo ⟨c, hc⟩ h
    simp only at e1
    obtain ⟨r, hr⟩ : ∃ r, dgN c = r := ⟨_, rfl⟩
    rw [hr] at e1 ⊢
    clear h hr
    go_enter Tryd.func57, Tryd.ntmps57
    go_wp2
    go_ret
    exact ⟨rfl, rfl⟩
/-- how far a text is cut: what lies ahead of 'from' is cut, none of what is gone through since is a blank -/
def Cut (l : List UInt8) (L : List ByteArray) (f i : Nat) : Prop := f ≤ i ∧ i ≤ l.length ∧ L.map (·.data.toList) ++ spL (l.drop f) = spL l ∧ (32 : UInt8) ∉ (l.drop f).take (i - f)
theorem Cut.skip {l : List UInt8} {L : List ByteArray} {f i : Nat} (h : Cut l L f i) (hi : i < l.length) (hc : l.getD i 0 ≠ 32) : Cut l L f (i + 1) := by
  obtain ⟨h1, h2, h3, h4⟩ := h
  refine ⟨by omega, by omega, h3, fun e => ?_⟩
  rw [show i + 1 - f = (i - f) + 1 by omega, List.take_add_one, List.getElem?_drop, show f + (i - f) = i by omega, List.getElem?_eq_getElem hi] at e
  rcases List.mem_append.1 e with e | e
  · exact h4 e
  · have e2 : (32 : UInt8) = l[i] := by simpa using e
    rw [List.getD_eq_getElem?_getD, List.getElem?_eq_getElem hi] at hc
    exact hc e2.symm
theorem Cut.word {s : ByteArray} {L : List ByteArray} {f i : Nat} (h : Cut s.data.toList L f i) (hi : i < s.data.toList.length) (hc : s.data.toList.getD i 0 = 32) : Cut s.data.toList (L ++ [s.extract f i]) (i + 1) (i + 1) := by
  obtain ⟨h1, h2, h3, h4⟩ := h
  have e : s.data.toList.drop f = (s.data.toList.drop f).take (i - f) ++ 32 :: s.data.toList.drop (i + 1) := by
    conv => lhs; rw [← List.take_append_drop (i - f) (s.data.toList.drop f)]
    rw [List.drop_drop, show f + (i - f) = i by omega, List.drop_eq_getElem_cons hi]
    have : s.data.toList[i] = 32 := by rw [List.getD_eq_getElem?_getD, List.getElem?_eq_getElem hi] at hc; exact hc
    rw [this]
  refine ⟨Nat.le_refl _, by omega, ?_, by rw [Nat.sub_self]; simp⟩
  rw [← h3, e, spL_app h4, List.map_append, List.append_assoc]
  congr 1
  show [(s.extract f i).data.toList] ++ _ = _
  rw [Lib.extract_data]; rfl
theorem Cut.last {s : ByteArray} {L : List ByteArray} {f : Nat} (h : Cut s.data.toList L f s.data.toList.length) : L ++ [s.extract f s.data.toList.length] = wordsOf s := by
  obtain ⟨h1, h2, h3, h4⟩ := h
  refine map_data_inj ?_
  have e : (s.data.toList.drop f).take (s.data.toList.length - f) = s.data.toList.drop f := List.take_of_length_le (by rw [List.length_drop]; exact Nat.le_refl _)
  rw [e] at h4
  rw [words_data, ← h3, spL_no h4, List.map_append]
  congr 1
  show [(s.extract f s.data.toList.length).data.toList] = _
  rw [Lib.extract_data, e]
def SplEnd (s : ByteArray) (w : World) (e : Ending) (w' : World) : Prop := ∃ v, e = .returned v ∧ ROwn wdc 1 w' w.heap.size 9 v (wordsOf s).length (wordsOf s) ∧ Below w.heap.size w w'
set_option maxRecDepth 100000 in
set_option maxHeartbeats 16000000 in
theorem rsplit_any (s : ByteArray) (w : World) (hs : s.size ≤ 100000) : Calls Tryd.prog 42 #[.string s] w (SplEnd s w) := by
  obtain ⟨n, hn⟩ : ∃ n, s.size = n := ⟨_, rfl⟩
  have HLN : Hid (s.data.toList.length = n) := Lib.hid hn
  have HNS : Hid (n ≤ 100000) := Lib.hid (by omega)
  clear hs
  go_enter Tryd.func42, Tryd.ntmps42
  go_wp2
  go_loopw [3, 4, 5] (fun o f i W => ∃ (a b m : Nat) (v : Value) (L : List ByteArray), o = v ∧ f = .int .i64 a ∧ i = .int .i64 b ∧ b ≤ n + 1 ∧ a ≤ b ∧ m ≤ b ∧ ROwn wdc 1 W w.heap.size 9 v m L ∧ Below w.heap.size w W ∧ ((b ≤ n ∧ Cut s.data.toList L a b) ∨ (b = n + 1 ∧ L = wordsOf s))) (fun _ _ i _ => n + 1 - (intOf i).toNat)
  case atStart => exact ⟨0, 0, 0, _, [], rfl, rfl, rfl, Nat.zero_le _, Nat.le_refl _, Nat.le_refl _, ROwn.nil0 _ _ _, Below.refl _ _, .inl ⟨Nat.zero_le _, Nat.le_refl _, Nat.zero_le _, rfl, by simp⟩⟩
  case round =>
    obtain ⟨a, b, m, v, L, rfl, rfl, rfl, hb1, hab, hmb, hro, hb, hc⟩ := hrel
    have HO := Lib.hid hro
    have HB := Lib.hid hb
    have HC := Lib.hid hc
    have HMB := Lib.hid hmb
    have HML : Hid (L.length = m) := Lib.hid hro.1
    clear hro hb hc hmb
    by_cases hlt : b ≤ n
    · have d2 : decide ((b : Int) ≤ (n : Int)) = true := decide_eq_true (by omega)
      have d2' : decide (b ≤ n) = true := decide_eq_true hlt
      have wk : IntKind.i64.wrap ((b : Int) + 1) = (b : Int) + 1 := IntWalk.i64_in _ (by have := HNS.out; omega)
      have HCC : Hid (Cut s.data.toList L a b) := Lib.hid (by rcases HC.out with h | h; · exact h.2
                                                              · exact absurd h.1 (by omega))
      obtain ⟨Av, cv, hv, _, _⟩ := HO.out.sl
      subst hv
      have hby : Below wr.heap.size wr (wr.alloc (.cells #[.string (s.extract a b)] 9)) := (Below.refl _ _).alloc (Nat.le_refl _) _
      have HOA := Lib.hid (HO.out.later hby)
      have HBA := Lib.hid (stepB HB.out hby)
      have HXA : Hid (RSl wdc 1 (wr.alloc (.cells #[.string (s.extract a b)] 9)) (some ⟨wr.heap.size, 0, none⟩) 1 [s.extract a b]) := Lib.hid (Blk.rsl (x := s.extract a b) (Blk.new wr _ 9))
      have HZ : Hid (m + 1 ≤ 1000000) := Lib.hid (by have h1 := HMB.out; have h2 := HNS.out; omega)
      clear hby HC
      have hab2 : a ≤ b := hab
      have hbn : b ≤ n := hlt
      by_cases hbe : b = n
      · have q1 : ((b : Int) == (n : Int)) = true := by rw [beq_iff_eq]; omega
        have HBE := Lib.hid hbe
        clear hbe
        go_wp2_with (first
          | (at_builtin; refine append_row1 elemW rfl (.tmp 22) (.tmp 27) rfl w.heap.size (.slice Av m cv) m L rfl HOA.out wr.heap.size 1 (s.extract a b) rfl HXA.out HZ.out (by decide) HBA.out.size ?_; intro A4 c4 w4 ho4 hg4 hn4)
          | fail)
        intro hl4
        have HO4 := Lib.hid ho4
        have HB4 := Lib.hid (HBA.out.grown hg4 HBA.out.size (fun j e => (HOA.out.lt j e).1))
        clear ho4 hg4 hn4 hl4 HXA HOA HBA
        go_wp2
        go_roundw
        case rel =>
          refine ⟨b + 1, b + 1, m + 1, _, _, rfl, by go_num, by go_num, by omega, Nat.le_refl _, by have := HMB.out; omega, HO4.out, HB4.out, .inr ⟨by have := HBE.out; omega, ?_⟩⟩
          have h := HCC.out
          rw [HBE.out, ← HLN.out] at h ⊢
          exact h.last
        case measure => simp [intOf]; omega
      · have q1 : ((b : Int) == (n : Int)) = false := by rw [beq_eq_false_iff_ne]; omega
        have HBL : Hid (b < s.data.toList.length) := Lib.hid (by have := HLN.out; omega)
        have i1 := sindex_ s b (b : Int) rfl (by rw [hn]; omega)
        obtain ⟨c, hc⟩ : ∃ c, s.data.toList.getD b 0 = c := ⟨_, rfl⟩
        rw [hc] at i1
        have HCH := Lib.hid hc
        clear hc
        by_cases h32 : c = 32
        · have hb32 : (((c.toNat : Nat) : Int) == 32) = true := by rw [h32]; rfl
          have H32 := Lib.hid h32
          clear h32 hbe
          go_wp2_with (first
            | (at_builtin; refine append_row1 elemW rfl (.tmp 22) (.tmp 27) rfl w.heap.size (.slice Av m cv) m L rfl HOA.out wr.heap.size 1 (s.extract a b) rfl HXA.out HZ.out (by decide) HBA.out.size ?_; intro A4 c4 w4 ho4 hg4 hn4)
            | fail)
          intro hl4
          have HO4 := Lib.hid ho4
          have HB4 := Lib.hid (HBA.out.grown hg4 HBA.out.size (fun j e => (HOA.out.lt j e).1))
          clear ho4 hg4 hn4 hl4 HXA HOA HBA i1
          go_wp2
          go_roundw
          case rel => exact ⟨b + 1, b + 1, m + 1, _, _, rfl, by go_num, by go_num, by omega, Nat.le_refl _, by have := HMB.out; omega, HO4.out, HB4.out, .inl ⟨by have := HBL.out; have := HLN.out; omega, HCC.out.word HBL.out (by rw [HCH.out, H32.out])⟩⟩
          case measure => simp [intOf]; omega
        · have hb32 : (((c.toNat : Nat) : Int) == 32) = false := by
            rw [beq_eq_false_iff_ne]
            intro e
            exact h32 (UInt8.toNat_inj.1 (show c.toNat = 32 by omega))
          have H32 := Lib.hid h32
          clear h32 hbe HXA HOA HBA
          go_wp2
          go_roundw
          case rel => exact ⟨a, b + 1, m, _, L, rfl, rfl, by go_num, by omega, by omega, by have := HMB.out; omega, HO.out, HB.out, .inl ⟨by have := HBL.out; have := HLN.out; omega, HCC.out.skip HBL.out (by rw [HCH.out]; exact H32.out)⟩⟩
          case measure => simp [intOf]; omega
    · have d2 : decide ((b : Int) ≤ (n : Int)) = false := decide_eq_false (by omega)
      have d2' : decide (b ≤ n) = false := decide_eq_false hlt
      have HLW : Hid (L = wordsOf s) := Lib.hid (by rcases HC.out with h | h; · exact absurd h.1 hlt
                                                    · exact h.2)
      go_wp2
      go_ret
      have h := HO.out
      rw [← HML.out, HLW.out] at h
      exact ⟨_, rfl, h, HB.out⟩
end Go.Proofs.YtkgdmdcnhbaidaaDoor
