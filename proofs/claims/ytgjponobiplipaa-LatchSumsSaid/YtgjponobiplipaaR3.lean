/-
What all tasks hold are together as many as are held. For any steps.
-/
import Derived.Test.YtgjponobiplipaaQ3
import Derived.Test.YtgjponobiplipaaRows
namespace Go.Proofs.Ytgjponobiplipaa.latchSums
open Go.ChangeShapes Go.WideShapes Go.ChangeAt Go.RowKit Go.Maps
set_option linter.unusedVariables false
set_option linter.unusedSimpArgs false

theorem own : ownKnob Try.prog.godebug = none := by kernel_rfl
theorem laidOut : laidOutB Try.prog = true := by kernel_rfl

set_option maxRecDepth 100000 in
set_option maxHeartbeats 4000000 in
theorem w_long (A : Option Addr) (n c : Nat) (w : World) (hn : 300 < n) : Calls Try.prog 7 #[.slice A n c] w (fun e w' => e = .returned (.bool true) ∧ Below w.heap.size w w') := by
  have d1 : decide ((300 : Int) < (n : Int)) = true := decide_eq_true (by omega)
  have HB0 := Lib.hid (Below.refl w.heap.size w)
  go_enter Try.func7, Try.ntmps7
  go_wp2_with fail
  refine (awake_any _).mono ?_
  rintro x w1 ⟨rfl, hb⟩
  have HB1 := Lib.hid (stepB HB0.out hb)
  clear hb HB0
  go_wp2
  go_ret
  exact ⟨rfl, HB1.out⟩
set_option maxRecDepth 100000 in
set_option maxHeartbeats 16000000 in
theorem w_main (A : Option Addr) (n c : Nat) (S : List Stp) (w : World) (hS : Steps w.heap.size w A n S) (hn : ¬ 300 < n) : Calls Try.prog 7 #[.slice A n c] w (fun e w' => e = .returned (.bool true) ∧ Below w.heap.size w w') := by
  have d1 : decide ((300 : Int) < (n : Int)) = false := decide_eq_false (by omega)
  have HS := Lib.hid hS
  clear hS
  go_enter Try.func7, Try.ntmps7
  go_wp2_with fail
  refine (awake_any _).mono ?_
  rintro x w1 ⟨rfl, hb⟩
  have HB1 := Lib.hid hb
  clear hb
  go_wp2_with fail
  refine (run_any A n c S w1 ((HS.out.below HB1.out).mono HB1.out.size) (by omega)).mono ?_
  rintro x w2 ⟨p, b, rfl, ho, hb⟩
  have P2 := Lib.hid (ho.base HB1.out.size)
  have HB2 := Lib.hid (stepB HB1.out hb)
  have hCl : (runC S [] n).length ≤ n := by have := run_len S [] n; simpa using this
  have HOW := Lib.hid (owners S n)
  generalize runC S [] n = C at *
  have HOK := Lib.hid ho.ok
  clear ho hb HB1
  go_wp2
  go_loopw [4, 5] (fun nv i wr => ∃ k : Nat, k ≤ n ∧ i = .int .i64 k ∧ nv = .int .i64 (cntS C S k : Nat) ∧ Below w2.heap.size w2 wr) (fun _ i _ => n - (intOf i).toNat)
  case atStart => exact ⟨0, Nat.zero_le _, rfl, by rw [cnt_zero]; rfl, Below.refl _ _⟩
  case round =>
    obtain ⟨k, hk, rfl, rfl, hb⟩ := hrel
    have HB3 := Lib.hid hb
    clear hb
    have hcl := cnt_le C S k
    by_cases hlt : k < n
    · have d2 : decide ((k : Int) < (n : Int)) = true := decide_eq_true (by omega)
      have wk : IntKind.i64.wrap ((k : Int) + 1) = (k : Int) + 1 := IntWalk.i64_in _ (by omega)
      obtain ⟨g, off, rfl, hg, hcell⟩ := (HS.out.below HB2.out).2 (by omega)
      have hgl : g < w2.heap.size := Nat.lt_of_lt_of_le hg HB2.out.size
      have KC : Hid (∀ j, j < n → ∀ W, Below w2.heap.size w2 W → W.cell? ⟨g, off + j * 4 + 3, none⟩ = some (.int .i64 (S.getD j stp0).2.2)) := fun j hj W hb => (hb.cell (p := ⟨g, off + j * 4 + 3, none⟩) hgl).trans (hcell j hj).1.c3
      have hwt : (Lit.int .i64 (S.getD k stp0).2.2).wf = true := (hcell k hlt).2.2
      have HKN : Hid (seenB S k (S.getD k stp0).2.2 = true → cntS C S (k + 1) = cntS C S k) := cnt_known
      have HNW : Hid (seenB S k (S.getD k stp0).2.2 = false → cntS C S (k + 1) = cntS C S k + (heldC C (S.getD k stp0).2.2).length) := fun h => cnt_new h C
      have hcl2 := cnt_le C S (k + 1)
      have HC2 := Lib.hid hcl2
      have iK := fun m (h : m < n) => sindex g off n c m (m : Int) rfl h
      have HIK := Lib.hid iK
      have i1 := iK k hlt
      have HSC : Hid (∀ m, seenB S (m + 1) (S.getD k stp0).2.2 = (seenB S m (S.getD k stp0).2.2 || decide ((S.getD m stp0).2.2 = (S.getD k stp0).2.2))) := fun m => seen_succ S m _
      have HKK : Hid (∀ W, Below w2.heap.size w2 W → W.cell? ⟨g, off + k * 4 + 3, none⟩ = some (.int .i64 (S.getD k stp0).2.2)) := fun W hb => KC.out k hlt W hb
      have HHE : Hid (∀ j, j < (heldC C (S.getD k stp0).2.2).length → rg ((heldC C (S.getD k stp0).2.2).getD j 0) ∧ isC C ((heldC C (S.getD k stp0).2.2).getD j 0) = true ∧ ofC C ((heldC C (S.getD k stp0).2.2).getD j 0) = (S.getD k stp0).2.2) := fun j hj => held_at HOK.out hj
      clear hcell hg iK hcl2
      obtain ⟨t, ht⟩ : ∃ t, (S.getD k stp0).2.2 = t := ⟨_, rfl⟩
      rw [ht] at hwt HKN HNW HSC HKK HHE
      have HSZ : Hid (seenB S 0 t = false) := rfl
      clear ht
      go_wp2_with fail
      go_loopw [6, 7] (fun kv j wr' => ∃ m : Nat, m ≤ k ∧ j = .int .i64 m ∧ kv = .bool (seenB S m t) ∧ Below w2.heap.size w2 wr') (fun _ j _ => k - (intOf j).toNat)
      case atStart => exact ⟨0, Nat.zero_le _, rfl, by rw [HSZ.out], HB3.out⟩
      case round =>
        obtain ⟨m, hm, rfl, rfl, hb⟩ := hrel
        have HB4 := Lib.hid hb
        clear hb
        by_cases hmk : m < k
        · have d3 : decide ((m : Int) < (k : Int)) = true := decide_eq_true (by omega)
          have wm : IntKind.i64.wrap ((m : Int) + 1) = (m : Int) + 1 := IntWalk.i64_in _ (by omega)
          have hsc := HSC.out m
          by_cases hs : seenB S m t = true
          · rw [hs, Bool.true_or] at hsc
            have HSN := Lib.hid hsc
            rw [hs]
            clear hs hsc
            go_wp2
            go_quiet (fail)
            go_wp2
            go_roundw
            case rel => exact ⟨m + 1, by omega, by go_num, by rw [HSN.out], below_drewN HB4.out nq⟩
            case measure => simp [intOf]; omega
          · have hs' : seenB S m t = false := by simpa using hs
            rw [hs', Bool.false_or] at hsc
            have HSN := Lib.hid hsc
            rw [hs']
            have x3 := KC.out m (by omega) _ HB4.out
            have y3 := HKK.out _ HB4.out
            have i2 := HIK.out m (by omega)
            obtain ⟨tm, htm⟩ : ∃ x, (S.getD m stp0).2.2 = x := ⟨_, rfl⟩
            rw [htm] at x3 HSN
            clear hs hs' hsc htm
            by_cases e : tm = t
            · have de : (tm == t) = true := by rw [beq_iff_eq]; exact e
              have HSN2 : Hid (seenB S (m + 1) t = true) := HSN.out.trans (decide_eq_true e)
              clear e HSN
              go_wp2
              go_quiet (fail)
              clear x3 y3 i2
              go_wp2
              go_roundw
              case rel => exact ⟨m + 1, by omega, by go_num, by rw [HSN2.out], below_drewN HB4.out nq⟩
              case measure => simp [intOf]; omega
            · have de : (tm == t) = false := ieq_no e
              have HSN2 : Hid (seenB S (m + 1) t = false) := HSN.out.trans (decide_eq_false e)
              clear e HSN
              go_wp2
              go_quiet (fail)
              clear x3 y3 i2
              go_wp2
              go_roundw
              case rel => exact ⟨m + 1, by omega, by go_num, by rw [HSN2.out], below_drewN HB4.out nq⟩
              case measure => simp [intOf]; omega
        · obtain rfl : m = k := by omega
          have d3 : decide ((m : Int) < (m : Int)) = false := decide_eq_false (by omega)
          by_cases hs : seenB S m t = true
          · have HC := Lib.hid (HKN.out hs)
            rw [hs]
            clear hs i1
            go_wp2
            go_roundw
            case rel => exact ⟨m + 1, by omega, by go_num, by rw [HC.out], HB4.out⟩
            case measure => simp [intOf]; omega
          · have hs' : seenB S m t = false := by simpa using hs
            have HC := Lib.hid (HNW.out hs')
            rw [hs']
            clear hs hs'
            have y3 := HKK.out _ HB4.out
            have ws : IntKind.i64.wrap ((cntS C S m : Nat) + ((heldC C t).length : Nat) : Int) = ((cntS C S (m + 1) : Nat) : Int) := (IntWalk.i64_in _ (by have h1 := HC.out; have h2 := HC2.out; omega)).trans (by have h1 := HC.out; omega)
            generalize hc2e : cntS C S (m + 1) = c2 at *
            have HCE := Lib.hid hc2e
            clear hc2e
            have hlen := held_len C t
            go_wp2_with fail
            refine (held_any w.heap.size p b C t _ (P2.out.later HB4.out) (by omega)).mono ?_
            rintro x w5 ⟨Ah, ch, rfl, hsl, hb⟩
            have HSL := Lib.hid hsl
            have HB5 := Lib.hid (stepB HB4.out hb)
            generalize heldC C t = L at *
            clear hsl hb y3
            go_wp2
            go_loopw [9] (fun j wr' => ∃ q : Nat, q ≤ L.length ∧ j = .int .i64 q ∧ Below w5.heap.size w5 wr') (fun j _ => L.length - (intOf j).toNat)
            case atStart => exact ⟨0, Nat.zero_le _, rfl, Below.refl _ _⟩
            case round =>
              obtain ⟨q, hq, rfl, hb⟩ := hrel
              have HB6 := Lib.hid hb
              have HB7 := Lib.hid (stepB HB5.out hb)
              clear hb
              by_cases hql : q < L.length
              · have d4 : decide ((q : Int) < (L.length : Int)) = true := decide_eq_true (by omega)
                have wq : IntKind.i64.wrap ((q : Int) + 1) = (q : Int) + 1 := IntWalk.i64_in _ (by omega)
                obtain ⟨gh, rfl, _, _, hch⟩ := (HSL.out.later HB6.out) (by omega)
                obtain ⟨z0, z1, _, _⟩ := hch q hql
                have i3 := nindex 30 (.inl Try.underlying30) (.inl rfl) gh L.length ch q (q : Int) rfl hql
                obtain ⟨hrz, his, hof⟩ := HHE.out q hql
                generalize L.getD q 0 = z at *
                have HO1 : Hid (∀ W, LaAt W w.heap.size p b C → Calls Try.prog 9 #[.pointer (some ⟨p, 0, none⟩), .agg #[.int .u8 (z / 18446744073709551616), .int .u64 (z % 18446744073709551616)]] W fun x w' => x = .returned (.tuple #[.int .i64 t, .bool true]) ∧ Below W.heap.size W w') := fun W h => by
                  have h := owner_any w.heap.size p b _ z W h hrz
                  rw [his, hof] at h
                  exact h
                generalize z / 18446744073709551616 = zk at *
                generalize z % 18446744073709551616 = zi at *
                have dt : (t != t) = false := by simp
                clear hch hrz his hof
                go_wp2_with fail
                refine (HO1.out _ (P2.out.later HB7.out)).mono ?_
                rintro x w8 ⟨rfl, hb⟩
                have HB8 := Lib.hid (stepB HB6.out hb)
                have y3 := HKK.out _ (stepB HB7.out hb)
                clear hb HB6 HB7 HO1 z0 z1 i3
                go_wp2
                go_roundw
                case rel => exact ⟨q + 1, by omega, by go_num, HB8.out⟩
                case measure => simp [intOf]; omega
              · obtain rfl : q = L.length := by omega
                have d4 : decide ((L.length : Int) < (L.length : Int)) = false := decide_eq_false (by omega)
                clear i1
                go_wp2
                go_roundw
                case rel => exact ⟨m + 1, by omega, by go_num, by rw [HCE.out], HB7.out⟩
                case measure => simp [intOf]; omega
    · obtain rfl : k = n := by omega
      have d2 : decide ((k : Int) < (k : Int)) = false := decide_eq_false (by omega)
      have HA := Lib.hid (cnt_all HOW.out)
      have de : ((C.length : Int) == (C.length : Int)) = true := by simp
      rw [HA.out]
      have hbw := stepB HB2.out HB3.out
      have HBW := Lib.hid hbw
      have P3 := Lib.hid (P2.out.later HB3.out)
      clear HOW HA hbw hcl
      go_wp2_with fail
      refine (all_any w.heap.size p b C _ P3.out).mono ?_
      rintro x _ ⟨rfl, rfl⟩
      go_wp2
      go_ret
      exact ⟨rfl, HBW.out⟩
theorem walk (A : Option Addr) (n c : Nat) (S : List Stp) (w : World) (hS : Steps w.heap.size w A n S) : Calls Try.prog 7 #[.slice A n c] w (fun e w' => e = .returned (.bool true) ∧ Below w.heap.size w w') := by
  by_cases hn : 300 < n
  · exact w_long A n c w hn
  · exact w_main A n c S w hS hn


set_option maxRecDepth 100000 in
theorem lifted (os : Os) (started : os.Started) (H : Type) (enc : TypeId × Value → H) :
    ReturnsInHanded {} Try.checked os 7 .any (Rows.latchSumsSpec.pre6 enc Try.prog Try.f7 Rows.latchSumsRow.domain false) (Rows.latchSumsSpec.post enc Try.prog Try.f7 false true false false) := by
  refine returnsInHanded_of_change_sized (C := Try.checked) own started (by kernel_rfl) Try.func7
    (ChangeSpec.witness6 (enc := enc) (C := Try.checked) false ⟨#[], #[.slice none 0 0], []⟩ 8 (by kernel_rfl) (by kernel_rfl) (by kernel_rfl) (by kernel_rfl)) ?_
  intro W base args ds gs before hval0 hW _ hsz _
  have hval : ∀ (j : Nat) t v, Try.f7.params[j]? = some t → args[j]? = some v → Value.okWide Try.prog W .any base t v := hval0
  have hW' := hW
  obtain ⟨p, q, hA0, hV, hbef, _, _⟩ := hW
  have hA : DataW.TrodAll enc Try.prog W 0 (fun _ => true) true Try.f7.params.toList args.toList ds p := hA0
  rw [Try.params7] at hA hval
  obtain ⟨v0, vs0, d0, ds0, p0, q0, hargs, rfl, rfl, h0, r0⟩ := trodAll_cons hA
  obtain ⟨rfl, rfl, rfl⟩ := trodAll_nil r0
  obtain rfl : args = #[v0] := by cases args; simp_all
  obtain ⟨rfl, rfl⟩ := trodVars_none hV
  obtain ⟨A0, n0, c0, S0, rfl, st0, mx0, _, _⟩ := open_steps (hval 0 38 v0 rfl rfl) h0
  refine (walk A0 n0 c0 S0 W st0).mono fun e W' ⟨he, hb⟩ => ?_
  subst he
  exact ⟨_, rfl, law_post laidOut (of_decide_eq_true (by kernel_rfl)) rfl Try.underlying4 rfl rfl hW' hb⟩

theorem over : Rows.latchSumsRow.holds Try.pinned (OpenSpec.ofChange Rows.latchSumsSpec) :=
  OpenClaim.holds_of_wide 7 Try.f7 rfl rfl rfl rfl rfl rfl rfl ⟨rfl, rfl, rfl, rfl, rfl⟩ rfl rfl rfl rfl rfl (by kernel_rfl) Try.func7 (by kernel_rfl)
    (of_decide_eq_true (by kernel_rfl)) (by unfold Func.isWrapper; first | (rw [if_pos (by decide +kernel)]; kernel_rfl) | (rw [if_neg (by decide +kernel)]; exact ⟨rfl, rfl⟩))
    (fun os started H enc _ => lifted os started H enc)

end Go.Proofs.Ytgjponobiplipaa.latchSums
namespace Go.Proofs.Ytgjponobiplipaa
theorem latchSums_holds : Rows.LatchSumsSaid := latchSums.over
end Go.Proofs.Ytgjponobiplipaa
