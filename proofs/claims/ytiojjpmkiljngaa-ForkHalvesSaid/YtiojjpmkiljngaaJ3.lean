/- The document's Same. -/
import Derived.Test.YtiojjpmkiljngaaI0
namespace Go.Proofs.Ytiojjpmkiljngaa
open Go.ChangeShapes Go.WideShapes Go.ChangeAt Go.RowKit
set_option linter.unusedVariables false
set_option linter.unusedSimpArgs false

def sameN (lf lf' : Bool) (xs ys : List ByteArray) (ks js rs ss : List Int) : Bool := decide (lf = lf' ∧ xs = ys ∧ ks = js ∧ rs = ss)
def BoolEnd (b : Bool) (w : World) (x : Ending) (w' : World) : Prop := x = .returned (.bool b) ∧ Below w.heap.size w w'
theorem bool_end {b b' : Bool} {w w' : World} (h : b = b') (hb : Below w.heap.size w w') : BoolEnd b w (.returned (.bool b')) w' := ⟨ret_bool h.symm, hb⟩
theorem len_ne {α : Type} {xs ys : List α} {n n' : Nat} (h1 : xs.length = n) (h2 : ys.length = n') (h : ¬ n = n') : ¬ xs = ys := fun e => h (by rw [← h1, ← h2, e])
theorem at_ne {α : Type} {xs ys : List α} {k : Nat} {x y : α} (h1 : xs[k]? = some x) (h2 : ys[k]? = some y) (h : ¬ x = y) : ¬ xs = ys := fun e => h (Option.some.inj (by rw [← h1, ← h2, e]))
theorem ext_of {α : Type} {xs ys : List α} {n : Nat} (h1 : xs.length = n) (h2 : ys.length = n) (h : ∀ j, j < n → xs[j]? = ys[j]?) : xs = ys := by
  apply List.ext_getElem?
  intro i
  by_cases hi : i < n
  · exact h i hi
  · rw [List.getElem?_eq_none (by omega), List.getElem?_eq_none (by omega)]
set_option maxRecDepth 100000 in
set_option maxHeartbeats 4000000 in
theorem rsame_false (A B C : Option Addr) (n c m d k e : Nat) (xs : List ByteArray) (ks rs : List Int) (A' B' C' : Option Addr) (n' c' m' d' k' e' : Nat) (ys : List ByteArray) (js ss : List Int) (w : World) (hN : Nd w A B C n c m d k e xs ks rs) (hM : Nd w A' B' C' n' c' m' d' k' e' ys js ss) : Calls Try.prog 28 #[.agg #[.bool false, .slice A n c, .slice B m d, .slice C k e], .agg #[.bool true, .slice A' n' c', .slice B' m' d', .slice C' k' e']] w (BoolEnd (sameN false true xs ys ks js rs ss) w) := by
  have hb0 : Below w.heap.size w ((w.alloc (.cells #[.bool false, .slice A n c, .slice B m d, .slice C k e] 47)).alloc (.cells #[.bool true, .slice A' n' c', .slice B' m' d', .slice C' k' e'] 47)) := ((Below.refl _ _).alloc (Nat.le_refl _) _).alloc (by simp) _
  have b0 := ((Blk.new w #[.bool false, .slice A n c, .slice B m d, .slice C k e] 47).alloc (.cells #[.bool true, .slice A' n' c', .slice B' m' d', .slice C' k' e'] 47)).c4
  have b1 := (Blk.new2 (w.alloc (.cells #[.bool false, .slice A n c, .slice B m d, .slice C k e] 47)) #[.bool true, .slice A' n' c', .slice B' m' d', .slice C' k' e'] 47 (B := w.heap.size + 1) (by simp)).c4
  have HB := Lib.hid hb0
  have HN := Lib.hid (hN.later hb0)
  have HM := Lib.hid (hM.later hb0)
  have HR : Hid (sameN false true xs ys ks js rs ss = false) := decide_eq_false (fun e => by cases e.1)
  clear hb0 hN hM
  go_enter Try.func28, Try.ntmps28
  go_wp2
  go_ret
  exact bool_end HR.out HB.out
set_option maxRecDepth 100000 in
set_option maxHeartbeats 4000000 in
theorem rsame_true (A B C : Option Addr) (n c m d k e : Nat) (xs : List ByteArray) (ks rs : List Int) (A' B' C' : Option Addr) (n' c' m' d' k' e' : Nat) (ys : List ByteArray) (js ss : List Int) (w : World) (hN : Nd w A B C n c m d k e xs ks rs) (hM : Nd w A' B' C' n' c' m' d' k' e' ys js ss) : Calls Try.prog 28 #[.agg #[.bool true, .slice A n c, .slice B m d, .slice C k e], .agg #[.bool false, .slice A' n' c', .slice B' m' d', .slice C' k' e']] w (BoolEnd (sameN true false xs ys ks js rs ss) w) := by
  have hb0 : Below w.heap.size w ((w.alloc (.cells #[.bool true, .slice A n c, .slice B m d, .slice C k e] 47)).alloc (.cells #[.bool false, .slice A' n' c', .slice B' m' d', .slice C' k' e'] 47)) := ((Below.refl _ _).alloc (Nat.le_refl _) _).alloc (by simp) _
  have b0 := ((Blk.new w #[.bool true, .slice A n c, .slice B m d, .slice C k e] 47).alloc (.cells #[.bool false, .slice A' n' c', .slice B' m' d', .slice C' k' e'] 47)).c4
  have b1 := (Blk.new2 (w.alloc (.cells #[.bool true, .slice A n c, .slice B m d, .slice C k e] 47)) #[.bool false, .slice A' n' c', .slice B' m' d', .slice C' k' e'] 47 (B := w.heap.size + 1) (by simp)).c4
  have HB := Lib.hid hb0
  have HN := Lib.hid (hN.later hb0)
  have HM := Lib.hid (hM.later hb0)
  have HR : Hid (sameN true false xs ys ks js rs ss = false) := decide_eq_false (fun e => by cases e.1)
  clear hb0 hN hM
  go_enter Try.func28, Try.ntmps28
  go_wp2
  go_ret
  exact bool_end HR.out HB.out
set_option maxRecDepth 100000 in
set_option maxHeartbeats 4000000 in
theorem rsame_n (lf : Bool) (A B C : Option Addr) (n c m d k e : Nat) (xs : List ByteArray) (ks rs : List Int) (A' B' C' : Option Addr) (n' c' m' d' k' e' : Nat) (ys : List ByteArray) (js ss : List Int) (w : World) (hN : Nd w A B C n c m d k e xs ks rs) (hM : Nd w A' B' C' n' c' m' d' k' e' ys js ss) (h : ¬ n = n') : Calls Try.prog 28 #[.agg #[.bool lf, .slice A n c, .slice B m d, .slice C k e], .agg #[.bool lf, .slice A' n' c', .slice B' m' d', .slice C' k' e']] w (BoolEnd (sameN lf lf xs ys ks js rs ss) w) := by
  have hb0 : Below w.heap.size w ((w.alloc (.cells #[.bool lf, .slice A n c, .slice B m d, .slice C k e] 47)).alloc (.cells #[.bool lf, .slice A' n' c', .slice B' m' d', .slice C' k' e'] 47)) := ((Below.refl _ _).alloc (Nat.le_refl _) _).alloc (by simp) _
  have b0 := ((Blk.new w #[.bool lf, .slice A n c, .slice B m d, .slice C k e] 47).alloc (.cells #[.bool lf, .slice A' n' c', .slice B' m' d', .slice C' k' e'] 47)).c4
  have b1 := (Blk.new2 (w.alloc (.cells #[.bool lf, .slice A n c, .slice B m d, .slice C k e] 47)) #[.bool lf, .slice A' n' c', .slice B' m' d', .slice C' k' e'] 47 (B := w.heap.size + 1) (by simp)).c4
  have HB := Lib.hid hb0
  have HN := Lib.hid (hN.later hb0)
  have HM := Lib.hid (hM.later hb0)
  have d0 : (lf != lf) = false := by cases lf <;> rfl
  have HR : Hid (sameN lf lf xs ys ks js rs ss = false) := decide_eq_false (fun e => len_ne hN.K.len hM.K.len h e.2.1)
  have d1 : ((n : Int) != (n' : Int)) = true := by rw [bne_iff_ne]; omega
  clear hb0 hN hM h
  go_enter Try.func28, Try.ntmps28
  go_wp2
  go_ret
  exact bool_end HR.out HB.out
set_option maxRecDepth 100000 in
set_option maxHeartbeats 4000000 in
theorem rsame_m (lf : Bool) (A B C : Option Addr) (n c m d k e : Nat) (xs : List ByteArray) (ks rs : List Int) (A' B' C' : Option Addr) (n' c' m' d' k' e' : Nat) (ys : List ByteArray) (js ss : List Int) (w : World) (hN : Nd w A B C n c m d k e xs ks rs) (hM : Nd w A' B' C' n' c' m' d' k' e' ys js ss) (h1 : n = n') (h : ¬ m = m') : Calls Try.prog 28 #[.agg #[.bool lf, .slice A n c, .slice B m d, .slice C k e], .agg #[.bool lf, .slice A' n' c', .slice B' m' d', .slice C' k' e']] w (BoolEnd (sameN lf lf xs ys ks js rs ss) w) := by
  have hb0 : Below w.heap.size w ((w.alloc (.cells #[.bool lf, .slice A n c, .slice B m d, .slice C k e] 47)).alloc (.cells #[.bool lf, .slice A' n' c', .slice B' m' d', .slice C' k' e'] 47)) := ((Below.refl _ _).alloc (Nat.le_refl _) _).alloc (by simp) _
  have b0 := ((Blk.new w #[.bool lf, .slice A n c, .slice B m d, .slice C k e] 47).alloc (.cells #[.bool lf, .slice A' n' c', .slice B' m' d', .slice C' k' e'] 47)).c4
  have b1 := (Blk.new2 (w.alloc (.cells #[.bool lf, .slice A n c, .slice B m d, .slice C k e] 47)) #[.bool lf, .slice A' n' c', .slice B' m' d', .slice C' k' e'] 47 (B := w.heap.size + 1) (by simp)).c4
  have HB := Lib.hid hb0
  have HN := Lib.hid (hN.later hb0)
  have HM := Lib.hid (hM.later hb0)
  have d0 : (lf != lf) = false := by cases lf <;> rfl
  have HR : Hid (sameN lf lf xs ys ks js rs ss = false) := decide_eq_false (fun e => len_ne hN.D.len hM.D.len h e.2.2.1)
  have d1 : ((n : Int) != (n' : Int)) = false := by rw [bne_eq_false_iff_eq]; omega
  have d2 : ((m : Int) != (m' : Int)) = true := by rw [bne_iff_ne]; omega
  clear hb0 hN hM h h1
  go_enter Try.func28, Try.ntmps28
  go_wp2
  go_ret
  exact bool_end HR.out HB.out
set_option maxRecDepth 100000 in
set_option maxHeartbeats 4000000 in
theorem rsame_k (lf : Bool) (A B C : Option Addr) (n c m d k e : Nat) (xs : List ByteArray) (ks rs : List Int) (A' B' C' : Option Addr) (n' c' m' d' k' e' : Nat) (ys : List ByteArray) (js ss : List Int) (w : World) (hN : Nd w A B C n c m d k e xs ks rs) (hM : Nd w A' B' C' n' c' m' d' k' e' ys js ss) (h1 : n = n') (h2 : m = m') (h : ¬ k = k') : Calls Try.prog 28 #[.agg #[.bool lf, .slice A n c, .slice B m d, .slice C k e], .agg #[.bool lf, .slice A' n' c', .slice B' m' d', .slice C' k' e']] w (BoolEnd (sameN lf lf xs ys ks js rs ss) w) := by
  have hb0 : Below w.heap.size w ((w.alloc (.cells #[.bool lf, .slice A n c, .slice B m d, .slice C k e] 47)).alloc (.cells #[.bool lf, .slice A' n' c', .slice B' m' d', .slice C' k' e'] 47)) := ((Below.refl _ _).alloc (Nat.le_refl _) _).alloc (by simp) _
  have b0 := ((Blk.new w #[.bool lf, .slice A n c, .slice B m d, .slice C k e] 47).alloc (.cells #[.bool lf, .slice A' n' c', .slice B' m' d', .slice C' k' e'] 47)).c4
  have b1 := (Blk.new2 (w.alloc (.cells #[.bool lf, .slice A n c, .slice B m d, .slice C k e] 47)) #[.bool lf, .slice A' n' c', .slice B' m' d', .slice C' k' e'] 47 (B := w.heap.size + 1) (by simp)).c4
  have HB := Lib.hid hb0
  have HN := Lib.hid (hN.later hb0)
  have HM := Lib.hid (hM.later hb0)
  have d0 : (lf != lf) = false := by cases lf <;> rfl
  have HR : Hid (sameN lf lf xs ys ks js rs ss = false) := decide_eq_false (fun e => len_ne hN.R.len hM.R.len h e.2.2.2)
  have d1 : ((n : Int) != (n' : Int)) = false := by rw [bne_eq_false_iff_eq]; omega
  have d2 : ((m : Int) != (m' : Int)) = false := by rw [bne_eq_false_iff_eq]; omega
  have d3 : ((k : Int) != (k' : Int)) = true := by rw [bne_iff_ne]; omega
  clear hb0 hN hM h h1 h2
  go_enter Try.func28, Try.ntmps28
  go_wp2
  go_ret
  exact bool_end HR.out HB.out
set_option maxRecDepth 100000 in
set_option maxHeartbeats 4000000 in
theorem rsame_loop (lf : Bool) (A B C : Option Addr) (n c m d k e : Nat) (xs : List ByteArray) (ks rs : List Int) (A' B' C' : Option Addr) (c' d' e' : Nat) (ys : List ByteArray) (js ss : List Int) (w : World) (hN : Nd w A B C n c m d k e xs ks rs) (hM : Nd w A' B' C' n c' m d' k e' ys js ss) : Calls Try.prog 28 #[.agg #[.bool lf, .slice A n c, .slice B m d, .slice C k e], .agg #[.bool lf, .slice A' n c', .slice B' m d', .slice C' k e']] w (BoolEnd (sameN lf lf xs ys ks js rs ss) w) := by
  have hb0 : Below w.heap.size w ((w.alloc (.cells #[.bool lf, .slice A n c, .slice B m d, .slice C k e] 47)).alloc (.cells #[.bool lf, .slice A' n c', .slice B' m d', .slice C' k e'] 47)) := ((Below.refl _ _).alloc (Nat.le_refl _) _).alloc (by simp) _
  have b0 := ((Blk.new w #[.bool lf, .slice A n c, .slice B m d, .slice C k e] 47).alloc (.cells #[.bool lf, .slice A' n c', .slice B' m d', .slice C' k e'] 47)).c4
  have b1 := (Blk.new2 (w.alloc (.cells #[.bool lf, .slice A n c, .slice B m d, .slice C k e] 47)) #[.bool lf, .slice A' n c', .slice B' m d', .slice C' k e'] 47 (B := w.heap.size + 1) (by simp)).c4
  have HB := Lib.hid hb0
  have HN := Lib.hid (hN.later hb0)
  have HM := Lib.hid (hM.later hb0)
  clear hb0 hN hM
  have d0 : (lf != lf) = false := by cases lf <;> rfl
  have hz := HN.out.sz
  go_enter Try.func28, Try.ntmps28
  go_wp2
  generalize hw0 : (w.alloc (.cells #[.bool lf, .slice A n c, .slice B m d, .slice C k e] 47)).alloc (.cells #[.bool lf, .slice A' n c', .slice B' m d', .slice C' k e'] 47) = w0 at *
  clear hw0
  go_loopw [5] (fun i wr => ∃ j : Nat, j ≤ n ∧ i = .int .i64 j ∧ (∀ q, q < j → xs[q]? = ys[q]?) ∧ ∃ u, wr = w0.drewN u) (fun i _ => n - (intOf i).toNat)
  case atStart => exact ⟨0, by omega, rfl, fun j hj => by omega, 0, rfl⟩
  case round =>
    obtain ⟨jk, hj, rfl, hall, uk, rfl⟩ := hrel
    have Hall := Lib.hid hall
    clear hall
    by_cases hlt : jk < n
    · obtain ⟨g, off, x, hA, hxk, hck⟩ := HN.out.K.rd.at hlt
      obtain ⟨g', off', y, hA', hyk, hck'⟩ := HM.out.K.rd.at hlt
      have Hv := Lib.hid hxk
      have Hu2 := Lib.hid hyk
      have hx1 := sindex g off n c jk (jk : Int) rfl hlt
      have hx2 := sindex g' off' n c' jk (jk : Int) rfl hlt
      have hc1 : decide ((jk : Int) < (n : Int)) = true := decide_eq_true (by omega)
      simp only [sv] at hck hck'
      subst hA hA'
      clear hxk hyk
      by_cases he : x = y
      · have Hall2 : Hid (∀ q, q < jk + 1 → xs[q]? = ys[q]?) := fun q hq => by
          by_cases e : q = jk
          · subst e; rw [Hv.out, Hu2.out, he]
          · exact Hall.out q (by omega)
        have d8 := seq_yes he
        clear he
        go_wp2
        go_quiet (fail)
        clear hck hck' hx1 hx2
        go_wp2
        go_roundw
        case rel => exact ⟨jk + 1, by omega, by go_num, Hall2.out, uk + nq, by first | rfl | simp⟩
        case measure => simp [intOf]; omega
      · have HR : Hid (sameN lf lf xs ys ks js rs ss = false) := decide_eq_false (fun e => at_ne Hv.out Hu2.out he e.2.1)
        have d8 := seq_no he
        clear he
        go_wp2
        go_quiet (fail)
        clear hck hck' hx1 hx2
        go_wp2
        go_ret
        exact bool_end HR.out (by first | exact below_drewN (below_drewN HB.out _) _ | exact below_drewN HB.out _)
    · obtain rfl : jk = n := by omega
      have hc1 : decide ((jk : Int) < (jk : Int)) = false := decide_eq_false (by omega)
      have HEK : Hid (xs = ys) := ext_of HN.out.K.len HM.out.K.len Hall.out
      go_wp2
      go_loopw [6] (fun i wr => ∃ j : Nat, j ≤ m ∧ i = .int .i64 j ∧ (∀ q, q < j → ks[q]? = js[q]?) ∧ ∃ u, wr = w0.drewN u) (fun i _ => m - (intOf i).toNat)
      case atStart => exact ⟨0, by omega, rfl, fun j hj => by omega, _, rfl⟩
      case round =>
        obtain ⟨jd, hj, rfl, hall, ud, rfl⟩ := hrel
        have Hall := Lib.hid hall
        clear hall
        by_cases hlt : jd < m
        · obtain ⟨g, off, x, hA, hxk, hck⟩ := HN.out.D.rd.at hlt
          obtain ⟨g', off', y, hA', hyk, hck'⟩ := HM.out.D.rd.at hlt
          have Hv := Lib.hid hxk
          have Hu2 := Lib.hid hyk
          have hx1 := iindex g off m d jd (jd : Int) rfl hlt
          have hx2 := iindex g' off' m d' jd (jd : Int) rfl hlt
          have hc1 : decide ((jd : Int) < (m : Int)) = true := decide_eq_true (by omega)
          simp only [iv] at hck hck'
          subst hA hA'
          clear hxk hyk
          by_cases he : x = y
          · have Hall2 : Hid (∀ q, q < jd + 1 → ks[q]? = js[q]?) := fun q hq => by
              by_cases e : q = jd
              · subst e; rw [Hv.out, Hu2.out, he]
              · exact Hall.out q (by omega)
            have d8 := ieq_yes he
            have d9 := ine_no he
            clear he
            go_wp2
            go_quiet (fail)
            clear hck hck' hx1 hx2
            go_wp2
            go_roundw
            case rel => exact ⟨jd + 1, by omega, by go_num, Hall2.out, ud + nq, by first | rfl | simp⟩
            case measure => simp [intOf]; omega
          · have HR : Hid (sameN lf lf xs ys ks js rs ss = false) := decide_eq_false (fun e => at_ne Hv.out Hu2.out he e.2.2.1)
            have d8 := ieq_no he
            have d9 := ine_yes he
            clear he
            go_wp2
            go_quiet (fail)
            clear hck hck' hx1 hx2
            go_wp2
            go_ret
            exact bool_end HR.out (by first | exact below_drewN (below_drewN HB.out _) _ | exact below_drewN HB.out _)
        · obtain rfl : jd = m := by omega
          have hc1 : decide ((jd : Int) < (jd : Int)) = false := decide_eq_false (by omega)
          have HED : Hid (ks = js) := ext_of HN.out.D.len HM.out.D.len Hall.out
          go_wp2
          go_loopw [7] (fun i wr => ∃ j : Nat, j ≤ k ∧ i = .int .i64 j ∧ (∀ q, q < j → rs[q]? = ss[q]?) ∧ ∃ u, wr = w0.drewN u) (fun i _ => k - (intOf i).toNat)
          case atStart => exact ⟨0, by omega, rfl, fun j hj => by omega, _, rfl⟩
          case round =>
            obtain ⟨jr, hj, rfl, hall, ur, rfl⟩ := hrel
            have Hall := Lib.hid hall
            clear hall
            by_cases hlt : jr < k
            · obtain ⟨g, off, x, hA, hxk, hck⟩ := HN.out.R.rd.at hlt
              obtain ⟨g', off', y, hA', hyk, hck'⟩ := HM.out.R.rd.at hlt
              have Hv := Lib.hid hxk
              have Hu2 := Lib.hid hyk
              have hx1 := hindex g off k e jr (jr : Int) rfl hlt
              have hx2 := hindex g' off' k e' jr (jr : Int) rfl hlt
              have hc1 : decide ((jr : Int) < (k : Int)) = true := decide_eq_true (by omega)
              simp only [hv] at hck hck'
              subst hA hA'
              clear hxk hyk
              by_cases he : x = y
              · have Hall2 : Hid (∀ q, q < jr + 1 → rs[q]? = ss[q]?) := fun q hq => by
                  by_cases e : q = jr
                  · subst e; rw [Hv.out, Hu2.out, he]
                  · exact Hall.out q (by omega)
                have d8 := ieq_yes he
                have d9 := ine_no he
                clear he
                go_wp2
                go_quiet (fail)
                clear hck hck' hx1 hx2
                go_wp2
                go_roundw
                case rel => exact ⟨jr + 1, by omega, by go_num, Hall2.out, ur + nq, by first | rfl | simp⟩
                case measure => simp [intOf]; omega
              · have HR : Hid (sameN lf lf xs ys ks js rs ss = false) := decide_eq_false (fun e => at_ne Hv.out Hu2.out he e.2.2.2)
                have d8 := ieq_no he
                have d9 := ine_yes he
                clear he
                go_wp2
                go_quiet (fail)
                clear hck hck' hx1 hx2
                go_wp2
                go_ret
                exact bool_end HR.out (by first | exact below_drewN (below_drewN HB.out _) _ | exact below_drewN HB.out _)
            · obtain rfl : jr = k := by omega
              have hc1 : decide ((jr : Int) < (jr : Int)) = false := decide_eq_false (by omega)
              have HER : Hid (rs = ss) := ext_of HN.out.R.len HM.out.R.len Hall.out
              have HR : Hid (sameN lf lf xs ys ks js rs ss = true) := decide_eq_true ⟨rfl, HEK.out, HED.out, HER.out⟩
              go_wp2
              go_ret
              exact bool_end HR.out (below_drewN HB.out _)
theorem rsame_any (lf : Bool) (A B C : Option Addr) (n c m d k e : Nat) (xs : List ByteArray) (ks rs : List Int) (lf' : Bool) (A' B' C' : Option Addr) (n' c' m' d' k' e' : Nat) (ys : List ByteArray) (js ss : List Int) (w : World) (hN : Nd w A B C n c m d k e xs ks rs) (hM : Nd w A' B' C' n' c' m' d' k' e' ys js ss) : Calls Try.prog 28 #[.agg #[.bool lf, .slice A n c, .slice B m d, .slice C k e], .agg #[.bool lf', .slice A' n' c', .slice B' m' d', .slice C' k' e']] w (BoolEnd (sameN lf lf' xs ys ks js rs ss) w) := by
  by_cases h0 : lf = lf'
  · by_cases h1 : n = n'
    · by_cases h2 : m = m'
      · by_cases h3 : k = k'
        · subst h0 h1 h2 h3; exact rsame_loop lf A B C n c m d k e xs ks rs A' B' C' c' d' e' ys js ss w hN hM
        · subst h0; exact rsame_k lf A B C n c m d k e xs ks rs A' B' C' n' c' m' d' k' e' ys js ss w hN hM h1 h2 h3
      · subst h0; exact rsame_m lf A B C n c m d k e xs ks rs A' B' C' n' c' m' d' k' e' ys js ss w hN hM h1 h2
    · subst h0; exact rsame_n lf A B C n c m d k e xs ks rs A' B' C' n' c' m' d' k' e' ys js ss w hN hM h1
  · cases lf
    · cases lf'
      · exact absurd rfl h0
      · exact rsame_false A B C n c m d k e xs ks rs A' B' C' n' c' m' d' k' e' ys js ss w hN hM
    · cases lf'
      · exact rsame_true A B C n c m d k e xs ks rs A' B' C' n' c' m' d' k' e' ys js ss w hN hM
      · exact absurd rfl h0
end Go.Proofs.Ytiojjpmkiljngaa
