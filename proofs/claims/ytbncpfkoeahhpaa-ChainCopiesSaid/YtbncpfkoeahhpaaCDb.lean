/- An engine in memory: one of its calls. -/
import Derived.Test.YtbncpfkoeahhpaaCD
namespace Go.Proofs.Ytbncpfkoeahhpaa
open Go.ChangeShapes Go.WideShapes Go.ChangeAt Go.RowKit Go.Maps
set_option linter.unusedVariables false
set_option linter.unusedSimpArgs false

set_option maxRecDepth 100000 in
set_option maxHeartbeats 4000000 in
theorem chnew_any (cf : Conf) (m : Nat) (w : World) (h : mayB cf = true) (hm : cf.vl = (m : Int)) : Calls Try.prog 19 #[cf.val] w fun e w' => ∃ q a S, e = .returned (.tuple #[.pointer (some ⟨q, 0, none⟩), .int .i64 0]) ∧ CR w' w.heap.size q cf a m (0, [], []) S ∧ Below w.heap.size w w' := by
  show Calls Try.prog 19 #[.agg #[.int .i64 cf.ta, .int .i64 cf.ac, .int .i64 cf.ke, .int .i64 cf.de, .int .i64 cf.ts, .int .i64 cf.kl, .int .i64 cf.vl, .int .i64 cf.fa]] w _
  have hm2 : m ≤ 256 := by
    have h1 := h
    unfold mayB at h1
    rw [List.all_eq_true] at h1
    have h2 := h1 6 (by simp)
    rw [decide_eq_true_eq] at h2
    have h3 : cf.num 6 = cf.vl := rfl
    have h4 : hi 6 = 256 := rfl
    omega
  have HM := Lib.hid (fun W => may_any cf W)
  rw [h] at HM
  have HY := Lib.hid h
  have HV := Lib.hid hm
  have hbt := built68 cf
  have wa : IntKind.i64.wrap (27 + cf.vl) = ((27 + m : Nat) : Int) := by rw [hm]; rw [IntWalk.i64_in _ (by omega)]; omega
  have HB : Hid (Below w.heap.size w (w.alloc (.cells #[.int .i64 cf.ta, .int .i64 cf.ac, .int .i64 cf.ke, .int .i64 cf.de, .int .i64 cf.ts, .int .i64 cf.kl, .int .i64 cf.vl, .int .i64 cf.fa] 43))) := (Below.refl _ _).alloc (Nat.le_refl _) _
  have HK : Hid (Blk (w.alloc (.cells #[.int .i64 cf.ta, .int .i64 cf.ac, .int .i64 cf.ke, .int .i64 cf.de, .int .i64 cf.ts, .int .i64 cf.kl, .int .i64 cf.vl, .int .i64 cf.fa] 43)) w.heap.size #[.int .i64 cf.ta, .int .i64 cf.ac, .int .i64 cf.ke, .int .i64 cf.de, .int .i64 cf.ts, .int .i64 cf.kl, .int .i64 cf.vl, .int .i64 cf.fa] 43) := Blk.new _ _ _
  clear hm h
  go_enter Try.func19, Try.ntmps19
  go_wp2_with fail
  refine (HM.out _).mono ?_
  rintro e w1 ⟨rfl, hb⟩
  have HB1 := Lib.hid (stepB HB.out hb)
  have HK1 := Lib.hid (HK.out.later hb)
  obtain ⟨q0, hq⟩ : ∃ q, w.heap.size = q := ⟨_, rfl⟩
  rw [hq] at HK1
  rw [hq]
  clear hb HB HK hq
  have c6 := HK1.out.cell 6
  simp only [List.getElem?_toArray, List.getElem?_cons_zero, List.getElem?_cons_succ] at c6
  go_wp2_with fail
  refine (arnew_any (27 + m) w1 (by omega) (by omega)).mono ?_
  rintro e w2 ⟨a, S, rfl, hr, hb⟩
  have HA2 := Lib.hid (hr.base HB1.out.size)
  have HK2 := Lib.hid (HK1.out.later hb)
  have HB2 := Lib.hid (stepB HB1.out hb)
  clear hr hb HK1 HB1 c6
  have c0 := HK2.out.cell 0
  have c1 := HK2.out.cell 1
  have c2 := HK2.out.cell 2
  have c3 := HK2.out.cell 3
  have c4 := HK2.out.cell 4
  have c5 := HK2.out.cell 5
  have c6 := HK2.out.cell 6
  have c7 := HK2.out.cell 7
  simp only [List.getElem?_toArray, List.getElem?_cons_zero, List.getElem?_cons_succ] at c0 c1 c2 c3 c4 c5 c6 c7
  have hb2 := hbt a
  have hby : Below w2.heap.size w2 (w2.alloc (.cells #[.int .i64 cf.ta, .int .i64 cf.ac, .int .i64 cf.ke, .int .i64 cf.de, .int .i64 cf.ts, .int .i64 cf.kl, .int .i64 cf.vl, .int .i64 cf.fa, .pointer (some ⟨a, 0, none⟩)] 68)) := (Below.refl _ _).alloc (Nat.le_refl _) _
  have HR : Hid (CR (w2.alloc (.cells #[.int .i64 cf.ta, .int .i64 cf.ac, .int .i64 cf.ke, .int .i64 cf.de, .int .i64 cf.ts, .int .i64 cf.kl, .int .i64 cf.vl, .int .i64 cf.fa, .pointer (some ⟨a, 0, none⟩)] 68)) w.heap.size w2.heap.size cf a m (0, [], []) S) := ⟨HB2.out.size, Blk.new _ _ _, HA2.out.later hby, HV.out, HY.out⟩
  have HB3 := Lib.hid (stepB HB2.out hby)
  clear hby HK2 HB2 HA2
  clear hbt
  go_wp2
  go_ret2
  exact ⟨_, a, S, rfl, HR.out, HB3.out⟩
end Go.Proofs.Ytbncpfkoeahhpaa
