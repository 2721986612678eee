/- PW, PX in one. -/
import Derived.Test.YtoinjnocopejjaaPQ
import Derived.StillTailTactics
import Derived.Deep.QuietTactic
import Derived.BigQuiet
import Derived.Test.YtoinjnocopejjaaPU
/- Too long? -/
namespace Go.Proofs.Ytoinjnocopejjaa
open Go.ChangeShapes Go.WideShapes Go.ChangeAt Go.RowKit Go.Maps
set_option linter.unusedVariables false
set_option linter.unusedSimpArgs false
def LongEnd (L : List EH) (W : World) (e : Ending) (w' : World) : Prop := ∃ bq : Bool, e = .returned (.bool bq) ∧ Below W.heap.size W w' ∧ (bq = false → L.length ≤ 300 ∧ ∀ r ∈ L, r.1.2.2.2.2.2.2.length ≤ 8000)
/-- what the events alone come to -/
def Lgd (L : List EH) (v : Int) : Prop := 30 * min 1000 (L.length : Int) ≤ v ∧ ∀ r ∈ L, 5 * min 8000 (r.1.2.2.2.2.2.2.length : Int) ≤ v
set_option maxRecDepth 100000 in
set_option maxHeartbeats 8000000 in
theorem long30 {W : World} (A : Option Addr) (n cc : Nat) (LP : List PH) (A2 : Option Addr) (n2 c2 : Nat) (L : List EH) (hP : RSl prE 1 W A n LP) (hQ : ∀ r ∈ LP, PrQ W r) (hE : RSl evE 7 W A2 n2 L) (hn : n ≤ maxLen) (hn2 : n2 ≤ maxLen) (hlb : ∀ r ∈ LP, r.1.length ≤ maxLen) : Calls Try.prog 48 #[.slice A n cc, .slice A2 n2 c2] W (LongEnd L W) := by
  have hm : (maxLen : Int) ≤ 9223372036854775807 := by decide
  have HNM : Hid ((n : Int) ≤ 9223372036854775807 ∧ (n2 : Int) ≤ 9223372036854775807) := Lib.hid (by omega)
  have HLB : Hid (∀ r ∈ LP, (r.1.length : Int) ≤ 9223372036854775807) := Lib.hid (fun r hr => by have := hlb r hr; omega)
  have HLN : Hid (LP.length = n) := Lib.hid hP.1
  have HLM : Hid (L.length = n2) := Lib.hid hE.1
  have HP := Lib.hid hP
  have HQ := Lib.hid hQ
  have HE := Lib.hid hE
  have HB0 : Hid (Below W.heap.size W W) := Lib.hid (Below.refl _ _)
  obtain ⟨m0, hm0⟩ : ∃ m0, min 1000 (n2 : Int) = m0 := ⟨_, rfl⟩
  have hmb : 0 ≤ m0 ∧ m0 ≤ 1000 := by omega
  have w1 : wrap64 (30 * m0) = 30 * m0 := w64 (by omega)
  have HM0 := Lib.hid hm0
  have HMB := Lib.hid hmb
  clear hP hQ hE hn hn2 hm hmb hlb
  go_enter Try.func48, Try.ntmps48
  go_wp2
  clear hm0
  go_loopw [5, 6] (fun s5 s6 W' => ∃ (k : Nat) (v : Int), k ≤ n2 ∧ s6 = .int .i64 k ∧ s5 = .int .i64 v ∧ (30 * m0 ≤ v ∧ v ≤ 60000) ∧ (∀ r ∈ L.take k, 5 * min 8000 (r.1.2.2.2.2.2.2.length : Int) ≤ v) ∧ Below W.heap.size W W') (fun _ s6 _ => n2 - (intOf s6).toNat)
  case atStart => exact ⟨0, 30 * m0, Nat.zero_le _, rfl, by first | rfl | rw [w1], ⟨Int.le_refl _, by have := HMB.out; omega⟩, (fun r h => by cases h), HB0.out⟩
  case round =>
    obtain ⟨k, v, hk, rfl, rfl, hv, hal, hb⟩ := hrel
    have HV := Lib.hid hv
    have HAL := Lib.hid hal
    have HBW := Lib.hid hb
    clear hv hal hb HB0 w1
    by_cases hgo : k < n2 ∧ v < 8000
    · obtain ⟨hlt, hv8⟩ := hgo
      have d1 : decide ((k : Int) < (n2 : Int)) = true := decide_eq_true (by omega)
      have d1' : decide (k < n2) = true := decide_eq_true hlt
      have d2 : decide (v < 8000) = true := decide_eq_true hv8
      have wk : IntKind.i64.wrap ((k : Int) + 1) = (k : Int) + 1 := IntWalk.i64_in _ (by have := HNM.out; omega)
      have wk2 : wrap64 ((k : Int) + 1) = (k : Int) + 1 := by have := HNM.out; unfold wrap64; omega
      obtain ⟨g, off, hA, hg, hc⟩ := (HE.out.later HBW.out).2 (by omega)
      have i1 : ∀ W, (Instr.indexAt 90 (.slice A2 n2 c2) (.int .i64 (k : Int))).run Try.prog W = .ok (.pointer (some ⟨g, off + k * 7, none⟩)) W := fun W => by rw [hA]; exact idx90 g off n2 c2 k (k : Int) rfl hlt W
      have hrk : L[k]? = some (L[k]'(by rw [HLM.out]; exact hlt)) := List.getElem?_eq_getElem _
      generalize L[k]'(by rw [HLM.out]; exact hlt) = r at *
      obtain ⟨⟨wh, ta, ca, er, fo, va, pr⟩, Ae, ce⟩ := r
      have y5 : wr.cell? ⟨g, off + k * 7 + 3 + 2, none⟩ = some (.string va) := hc k _ hrk 5 (by decide)
      have y6 : wr.cell? ⟨g, off + k * 7 + 3 + 3, none⟩ = some (.slice Ae pr.length ce) := hc k _ hrk 6 (by decide)
      obtain ⟨a, ha⟩ : ∃ a, min 8000 (va.size : Int) = a := ⟨_, rfl⟩
      obtain ⟨q, hq⟩ : ∃ q, min 8000 (pr.length : Int) = q := ⟨_, rfl⟩
      have HAB : Hid ((0 ≤ a ∧ a ≤ 8000) ∧ (0 ≤ q ∧ q ≤ 8000)) := Lib.hid (by omega)
      have s1 : IntKind.i64.wrap (v + a) = v + a := i64w (by have := HV.out; have := HAB.out; have := HMB.out; omega)
      have s2 : IntKind.i64.wrap (5 * q) = 5 * q := i64w (by have := HAB.out; omega)
      have s3 : IntKind.i64.wrap (v + a + 5 * q) = v + a + 5 * q := i64w (by have := HV.out; have := HAB.out; have := HMB.out; omega)
      have HAL2 : Hid (∀ r ∈ L.take (k + 1), 5 * min 8000 (r.1.2.2.2.2.2.2.length : Int) ≤ v + a + 5 * q) := Lib.hid (fun r hr => by
        rw [List.take_add_one, hrk] at hr
        rcases List.mem_append.1 hr with h | h
        · have := HAL.out r h; have := HAB.out; omega
        · simp at h
          subst h
          have := HAB.out; have := HV.out; have := HMB.out
          show 5 * min 8000 (pr.length : Int) ≤ _
          omega)
      have HLT := Lib.hid hlt
      have HV8 := Lib.hid hv8
      clear hc hA hg hrk hlt hv8
      go_upto_region 5 with (fail)
      go_quiet (fail)
      have hb : Below wr.heap.size wr (wr.drewN nq) := (SameW.drewN wr nq).below (Below.refl _ _)
      have HB6 := Lib.hid (stepB HBW.out hb)
      clear hb y5 y6 i1 ha hq
      generalize wr.drewN nq = w6 at *
      go_wp2
      refine ⟨⟨k + 1, v + a + 5 * q, by have := HLT.out; omega, by go_num, rfl, by have := HV.out; have := HAB.out; have := HV8.out; omega, HAL2.out, HB6.out⟩, ?_⟩
      simp [intOf]
      have := HLT.out
      omega
    · have HLG : Hid (v < 8000 → Lgd L v) := Lib.hid (fun h8 => by
        have hkn : k = n2 := by omega
        refine ⟨by rw [HLM.out, HM0.out]; exact HV.out.1, ?_⟩
        have := HAL.out
        rw [hkn, ← HLM.out, List.take_length] at this
        exact this)
      have HX : Hid (v ≤ 60000 ∧ 0 ≤ v) := Lib.hid (by have := HV.out; have := HMB.out; omega)
      have d0 : (decide ((k : Int) < (n2 : Int)) && decide (v < 8000)) = false := by
        rw [Bool.and_eq_false_iff, decide_eq_false_iff_not, decide_eq_false_iff_not]; omega
      obtain ⟨b1, hb1⟩ : ∃ b1, decide (k < n2) = b1 := ⟨_, rfl⟩
      obtain ⟨b2, hb2⟩ : ∃ b2, decide (v < 8000) = b2 := ⟨_, rfl⟩
      have hb1' : decide ((k : Int) < (n2 : Int)) = b1 := by rw [← hb1]; exact decide_eq_decide.2 (by omega)
      rw [hb1', hb2] at d0
      clear hgo HV HAL HM0 HMB
      have HBA := HBW
      clear HBW
      have hcc : b1 = false ∨ (b1 = true ∧ b2 = false) := by cases b1 <;> cases b2 <;> simp_all
      clear d0
      rcases hcc with rfl | ⟨rfl, rfl⟩
      all_goals
        go_wp2
        go_loopw [5, 7] (fun s5 s7 W' => ∃ (i : Nat) (u : Int), i ≤ n ∧ s7 = .int .i64 i ∧ s5 = .int .i64 u ∧ (v ≤ u ∧ u ≤ 60000) ∧ Below W.heap.size W W') (fun _ s7 _ => n - (intOf s7).toNat)
        case atStart => exact ⟨0, v, Nat.zero_le _, rfl, rfl, ⟨Int.le_refl _, HX.out.1⟩, HBA.out⟩
        case round =>
          obtain ⟨i, u, hi, rfl, rfl, hu, hb⟩ := hrel
          have HU := Lib.hid hu
          have HBB := Lib.hid hb
          clear hu hb HBA
          by_cases hgo : i < n ∧ u < 8000
          · obtain ⟨hlt, hu8⟩ := hgo
            have d1 : decide ((i : Int) < (n : Int)) = true := decide_eq_true (by omega)
            have d1' : decide (i < n) = true := decide_eq_true hlt
            have d2 : decide (u < 8000) = true := decide_eq_true hu8
            have wi : IntKind.i64.wrap ((i : Int) + 1) = (i : Int) + 1 := IntWalk.i64_in _ (by have := HNM.out; omega)
            have wi2 : wrap64 ((i : Int) + 1) = (i : Int) + 1 := by have := HNM.out; unfold wrap64; omega
            have wu : wrap64 (u + 1) = u + 1 := w64 (by have := HU.out; have := HX.out; omega)
            have hrk : LP[i]? = some (LP[i]'(by rw [HLN.out]; exact hlt)) := List.getElem?_eq_getElem _
            generalize LP[i]'(by rw [HLN.out]; exact hlt) = r at *
            have HRK := Lib.hid hrk
            have HPQ := Lib.hid (HQ.out _ (List.mem_of_getElem? hrk))
            obtain ⟨l, y⟩ := r
            have HLT := Lib.hid hlt
            have HU1 : Hid (v ≤ u + 1 ∧ u + 1 ≤ 60000) := Lib.hid (by have := HU.out; omega)
            have HI0 : Hid (i < n) := Lib.hid hlt
            have KLen : Hid ((l.length : Int) ≤ 9223372036854775807) := Lib.hid (HLB.out _ (List.mem_of_getElem? hrk))
            clear hrk hlt hu8 HU
            go_wp2
            go_loopw [5, 8] (fun s5 s8 W' => ∃ (k : Nat) (x : Int), k ≤ l.length ∧ s8 = .int .i64 k ∧ s5 = .int .i64 x ∧ (v ≤ x ∧ x ≤ 60000) ∧ Below W.heap.size W W') (fun _ s8 _ => l.length - (intOf s8).toNat)
            case atStart => exact ⟨0, u + 1, Nat.zero_le _, rfl, by first | rfl | rw [wu], HU1.out, HBB.out⟩
            case round =>
              obtain ⟨k, x, hk, rfl, rfl, hx, hb⟩ := hrel
              have HXX := Lib.hid hx
              have HBC := Lib.hid hb
              clear hx hb HBB HU1 d1 d1' d2 wu
              obtain ⟨g1, o1, hA1, _, h1⟩ := (HP.out.later HBC.out).2 (by have := HI0.out; omega)
              have p0 := h1 i _ HRK.out 0 (by decide)
              simp only [Nat.mul_one, Nat.add_zero, prE, List.getElem?_cons_zero] at p0
              have i1 : ∀ W, (Instr.indexAt 93 (.slice A n cc) (.int .i64 (i : Int))).run Try.prog W = .ok (.pointer (some ⟨g1, o1 + i, none⟩)) W := fun W => by rw [hA1]; exact idx93 g1 o1 n cc i (i : Int) rfl HI0.out W
              clear hA1 h1
              by_cases hgo : k < l.length ∧ x < 8000
              · obtain ⟨hlt, hx8⟩ := hgo
                have d1 : decide ((k : Int) < (l.length : Int)) = true := decide_eq_true (by omega)
                have d1' : decide (k < l.length) = true := decide_eq_true hlt
                have d2 : decide (x < 8000) = true := decide_eq_true hx8
                obtain ⟨g2, o2, hA2, hg2, h2⟩ := (HPQ.out.1.later HBC.out).2 (by show 0 < l.length; omega)
                have hll := HPQ.out.1.1
                have hr : l[k]? = some (l[k]'hlt) := List.getElem?_eq_getElem _
                generalize l[k]'hlt = r at *
                obtain ⟨kn, tx, ke, en, vl, li, eg⟩ := r
                have q0 : wr.cell? ⟨g2, o2 + k * 7, none⟩ = some (.int .u8 (kn : Int)) := h2 k _ hr 0 (by decide)
                have q1 : wr.cell? ⟨g2, o2 + k * 7 + 1, none⟩ = some (.int .i64 tx) := h2 k _ hr 1 (by decide)
                have q2 : wr.cell? ⟨g2, o2 + k * 7 + 2, none⟩ = some (.string ke) := h2 k _ hr 2 (by decide)
                have q3 : wr.cell? ⟨g2, o2 + k * 7 + 3, none⟩ = some (.string en) := h2 k _ hr 3 (by decide)
                have q4 : wr.cell? ⟨g2, o2 + k * 7 + 4, none⟩ = some (.string vl) := h2 k _ hr 4 (by decide)
                have q5 : wr.cell? ⟨g2, o2 + k * 7 + 5, none⟩ = some (.int .i64 li) := h2 k _ hr 5 (by decide)
                have q6 : wr.cell? ⟨g2, o2 + k * 7 + 6, none⟩ = some (.int .u8 (eg : Int)) := h2 k _ hr 6 (by decide)
                have i2 : ∀ W, (Instr.indexAt 92 (.slice y.1 l.length y.2) (.int .i64 (k : Int))).run Try.prog W = .ok (.pointer (some ⟨g2, o2 + k * 7, none⟩)) W := fun W => by rw [show y.1 = some ⟨g2, o2, none⟩ from hA2]; exact idx92 g2 o2 l.length y.2 k (k : Int) rfl hlt W
                obtain ⟨a, ha⟩ : ∃ a, min 8000 (ke.size : Int) = a := ⟨_, rfl⟩
                obtain ⟨b, hb⟩ : ∃ b, min 8000 (en.size : Int) = b := ⟨_, rfl⟩
                obtain ⟨c, hc⟩ : ∃ c, min 8000 (vl.size : Int) = c := ⟨_, rfl⟩
                have HABC : Hid ((0 ≤ a ∧ a ≤ 8000) ∧ (0 ≤ b ∧ b ≤ 8000) ∧ (0 ≤ c ∧ c ≤ 8000)) := Lib.hid (by omega)
                have hkb : (k : Int) + 1 ≤ 9223372036854775807 := by
                  have h3 : x ≤ 60000 := HXX.out.2
                  have hm2 : (maxLen : Int) ≤ 9223372036854775807 := by decide
                  have := KLen.out
                  omega
                have wk : IntKind.i64.wrap ((k : Int) + 1) = (k : Int) + 1 := IntWalk.i64_in _ (by omega)
                have wk2 : wrap64 ((k : Int) + 1) = (k : Int) + 1 := by unfold wrap64; omega
                have HX0 : Hid (0 ≤ x ∧ x < 8000) := Lib.hid (by have := HXX.out; have := HX.out; omega)
                have s1 : wrap64 (x + 5) = x + 5 := w64 (by have := HX0.out; omega)
                have s2 : wrap64 (x + 5 + a) = x + 5 + a := w64 (by have := HX0.out; have := HABC.out; omega)
                have s3 : wrap64 (x + 5 + a + b) = x + 5 + a + b := w64 (by have := HX0.out; have := HABC.out; omega)
                have s4 : wrap64 (x + 5 + a + b + c) = x + 5 + a + b + c := w64 (by have := HX0.out; have := HABC.out; omega)
                have HB4 : Hid (Below W.heap.size W (wr.alloc (.cells #[.int .u8 (kn : Int), .int .i64 tx, .string ke, .string en, .string vl, .int .i64 li, .int .u8 (eg : Int)] 36))) := Lib.hid (HBC.out.alloc HBC.out.size _)
                have HLT2 := Lib.hid hlt
                have HWB : Hid (v ≤ wrap64 (x + 5 + a + b + c) ∧ wrap64 (x + 5 + a + b + c) ≤ 60000) := Lib.hid (by rw [s4]; have h1 := HX0.out; have h2 := HABC.out; have h3 := HXX.out; clear s1 s2 s3 s4 wk wk2; omega)
                clear h2 hA2 hg2 hr hlt hx8 hkb hll
                go_wp2
                clear s1 s2 s3 s4 wk2
                refine ⟨⟨k + 1, wrap64 (x + 5 + a + b + c), by have := HLT2.out; omega, by go_num, rfl, HWB.out, HB4.out⟩, ?_⟩
                clear wk
                simp [intOf]
                have := HLT2.out
                omega
              · have HXY : Hid (v ≤ x ∧ x ≤ 60000) := HXX
                obtain ⟨b1, hb1⟩ : ∃ b1, decide (k < l.length) = b1 := ⟨_, rfl⟩
                obtain ⟨b2, hb2⟩ : ∃ b2, decide (x < 8000) = b2 := ⟨_, rfl⟩
                have hb1' : decide ((k : Int) < (l.length : Int)) = b1 := by rw [← hb1]; exact decide_eq_decide.2 (by omega)
                have hcc : b1 = false ∨ (b1 = true ∧ b2 = false) := by
                  by_cases h1 : k < l.length
                  · right
                    exact ⟨by rw [← hb1]; exact decide_eq_true h1, by rw [← hb2]; exact decide_eq_false (fun h => hgo ⟨h1, h⟩)⟩
                  · left; rw [← hb1]; exact decide_eq_false h1
                clear hgo
                rcases hcc with rfl | ⟨rfl, rfl⟩
                all_goals
                  go_wp2
                  refine ⟨⟨i + 1, x, by have := HI0.out; omega, by go_num, rfl, HXY.out, HBC.out⟩, ?_⟩
                  simp [intOf]
                  have := HI0.out
                  omega
          · have HUU : Hid (v ≤ u ∧ u ≤ 60000) := HU
            obtain ⟨b1, hb1⟩ : ∃ b1, decide (i < n) = b1 := ⟨_, rfl⟩
            obtain ⟨b2, hb2⟩ : ∃ b2, decide (u < 8000) = b2 := ⟨_, rfl⟩
            have hb1' : decide ((i : Int) < (n : Int)) = b1 := by rw [← hb1]; exact decide_eq_decide.2 (by omega)
            have hcc : b1 = false ∨ (b1 = true ∧ b2 = false) := by
              by_cases h1 : i < n
              · right
                exact ⟨by rw [← hb1]; exact decide_eq_true h1, by rw [← hb2]; exact decide_eq_false (fun h => hgo ⟨h1, h⟩)⟩
              · left; rw [← hb1]; exact decide_eq_false h1
            clear hgo
            obtain ⟨bq, hbq⟩ : ∃ bq, decide (u ≥ 8000) = bq := ⟨_, rfl⟩
            have hbq2 : decide (8000 ≤ u) = bq := hbq
            have HBQ := Lib.hid hbq
            rcases hcc with rfl | ⟨rfl, rfl⟩
            all_goals
              go_wp2
              go_ret
              refine ⟨bq, rfl, HBB.out, fun h => ?_⟩
              have h1 := HBQ.out
              rw [h] at h1
              have h2 := of_decide_eq_false h1
              have h3 := HLG.out (by have := HUU.out; omega)
              have h4 := HUU.out
              refine ⟨?_, fun r hr => ?_⟩
              · have := h3.1
                omega
              · have := h3.2 r hr
                omega
end Go.Proofs.Ytoinjnocopejjaa

/- What Now tells, by cases. -/
namespace Go.Proofs.Ytoinjnocopejjaa
open Go.ChangeShapes Go.WideShapes Go.ChangeAt Go.RowKit Go.Maps
set_option linter.unusedVariables false
set_option linter.unusedSimpArgs false
theorem now_cases (c : Conf) (P : Ps) (l : List Ev) : (nowP c P l = (0, 0, 1) ∧ mayP c P = false) ∨ (nowP c P l = (0, 0, 4) ∧ mayP c P = true ∧ playP (newP c P) l = none) ∨ ∃ p, mayP c P = true ∧ playP (newP c P) l = some p ∧ POk c P p ∧ nowP c P l = ((sumP c P p).1, (sumP c P p).2, 0) := by
  unfold nowP
  cases hm : mayP c P with
  | false => exact .inl ⟨if_pos rfl, rfl⟩
  | true =>
    rw [if_neg (by decide)]
    cases hp : playP (newP c P) l with
    | none => exact .inr (.inl ⟨rfl, rfl, rfl⟩)
    | some p => exact .inr (.inr ⟨p, rfl, rfl, (POk.new (mayP_of hm).1 _).play hp, rfl⟩)
theorem sumP_3648 {c : Conf} {P : Ps} {p : Pl} (h : POk c P p) : 0 ≤ (sumP c P p).1 ∧ (sumP c P p).1 ≤ 3584 ∧ 0 ≤ (sumP c P p).2 ∧ (sumP c P p).2 ≤ 3136 := by
  have h1 := sumP_b h
  have hn := num_ok (h.cf ▸ h.ok.may)
  have := hn.b1; have := hn.b2
  omega
end Go.Proofs.Ytoinjnocopejjaa
