/- The library's Grow, Concat and Clone, and splice, at texts. -/
import Derived.Test.YtiojjpmkiljngaaH0
namespace Go.Proofs.Ytiojjpmkiljngaa
open Go.ChangeShapes Go.WideShapes Go.ChangeAt Go.RowKit
set_option linter.unusedVariables false
set_option linter.unusedSimpArgs false

theorem sinfo : (Try.prog.info? 9).map (fun i => (i.zero, i.size, i.bytes)) = some (some (.string ⟨#[]⟩), 1, 16) := by kernel_rfl
theorem selem : Elem Try.prog 22 9 sv 16 := by
  refine ⟨Try.underlying22, ?_, fun x => rfl⟩
  obtain ⟨i, h1, h2, h3, h4⟩ := info_parts sinfo
  exact ⟨i, _, h1, h2, h3, h4, rfl⟩
theorem ssize (w : World) : (Go.sizeOf 9).run Try.prog w = .ok 1 w := by
  obtain ⟨i, h1, h2, h3, h4⟩ := info_parts sinfo
  simp [Go.sizeOf, typeInfo, h1, h3]
set_option maxRecDepth 100000 in
set_option maxHeartbeats 1000000 in
theorem sGrow (n : Nat) (w : World) (hn : n ≤ 2000000) : Calls Try.prog 50 #[.slice none 0 0, .int .i64 n] w (MadeEnd sv 9 [] w) := by
  by_cases h0 : n = 0
  · subst h0
    have hh : MadeEnd sv 9 [] w (.returned (.slice none 0 0)) w := ⟨_, rfl, Ow.none _ _ _, Below.refl _ _⟩
    have Hh := Lib.hid hh
    clear hh
    go_enter Try.func50, Try.ntmps50
    go_wp2
    go_ret
    exact Hh.out
  · obtain ⟨i0, hi, hz0, hz1, hz2⟩ := info_parts sinfo
    have hpos : 0 < n := by omega
    have hr : ∀ ty, (Builtin.append_ #[22, 3] ty #[.slice none 0 0, .int .i64 n]).run Try.prog w = _ := fun ty => Lib.run_append_nil_zeros w 22 3 ty 9 i0 _ .i64 .i64 Try.underlying22 Try.underlying3 hi hz0 n hpos (by omega) (by omega) (by rw [hz2]; omega)
    obtain ⟨cap, hcap⟩ : ∃ cap, grownCap w n 0 9 = cap := ⟨_, rfl⟩
    have hge := grownCap_ge w n 0 9
    have hle := grownCap_le_maxLen w n 0 9 (by unfold maxLen; omega)
    rw [hcap] at hr hge hle
    obtain ⟨C, hC⟩ : ∃ C, Builtin.zeroCells (Value.cells (.string ⟨#[]⟩)) n ++ Builtin.zeroCells (Value.cells (.string ⟨#[]⟩)) (cap - n) = C := ⟨_, rfl⟩
    have hCs : C.size = cap := by rw [← hC, Array.size_append, size_zeroCells, size_zeroCells]; simp [Value.cells]; omega
    rw [hC] at hr
    have Hown : Hid (Ow sv (w.drew.alloc (.cells C 9)) w.heap.size 9 (.slice (some ⟨w.heap.size, 0, none⟩) 0 cap) 0 []) := World.ownsRow_made w.drew C cap (Nat.le_refl _) hle (by rw [hCs]; omega)
    have hb : Below w.heap.size w (w.drew.alloc (.cells C 9)) := ((Below.refl _ _).drew).alloc (Nat.le_refl _) _
    have Hb := Lib.hid hb
    have hle2 : cap ≤ 9223372036854775807 := by unfold maxLen at hle; omega
    clear hb hC hCs hcap hle hz0 hz1 hz2 hi
    have h1 : ¬ (n : Int) < 0 := by omega
    have h4 : (n : Int) > 0 := by omega
    go_enter Try.func50, Try.ntmps50
    go_wp2_with (at_builtin; refine Lib.wpList_append_run _ rfl _ _ _ _ rfl _ _ rfl rfl _ _ (hr _) ?_)
    all_goals (go_ret; exact ⟨_, rfl, Hown.out, Hb.out⟩)
set_option maxRecDepth 100000 in
set_option maxHeartbeats 2000000 in
theorem sConcat (g L : Nat) (S : List (Sp ByteArray)) (w : World) (hL : S.length = L) (hS : SpAt sv S g w) (hl : L ≤ 1000) (hn : total S L ≤ 1000000) :
    Calls Try.prog 46 #[.slice (some ⟨g, 0, none⟩) L L] w (MadeEnd sv 9 (flat S L) w) := by
  have HL := Lib.hid hL
  have HS := Lib.hid hS
  have HN := Lib.hid hn
  clear hL hS hn
  go_enter Try.func46, Try.ntmps46
  go_wp2
  go_loop [3, 11] (fun s i => ∃ k : Nat, k ≤ L ∧ i = .int .i64 k ∧ s = .int .i64 (total S k : Nat)) (fun _ i => L - (intOf i).toNat)
  case atStart => exact ⟨0, Nat.zero_le _, rfl, rfl⟩
  case round =>
    obtain ⟨k, hk, rfl, rfl⟩ := hrel
    by_cases hlt : k < L
    · obtain ⟨s, hs⟩ : ∃ s, S[k]? = some s := ⟨_, List.getElem?_eq_getElem (by have := HL.out; omega)⟩
      have hc := (HS.out k s hs).1
      have HT := Lib.hid (total_succ S k s hs)
      have ht1 : total S (k + 1) ≤ 1000000 := by have := total_le S (k + 1); rw [HL.out] at this; have := HN.out; omega
      have hsum : total S k + s.n ≤ 1000000 := by have := HT.out; omega
      have hx := index_run2 75 g L k 22 Try.underlying75 (fun w => by kernel_rfl) (k : Int) rfl hlt
      have d1 : decide ((k : Int) < (L : Int)) = true := decide_eq_true (by omega)
      obtain ⟨A, n, c, xs⟩ := s
      have hw : IntKind.i64.wrap ((total S k : Nat) + (n : Int)) = (total S k : Nat) + (n : Int) := IntWalk.i64_in _ (by simp only at hsum; omega)
      simp only at hc hsum HT
      have HS2 := Lib.hid hs
      generalize htk : total S k = tk at *
      have Htk := Lib.hid htk
      clear hs htk ht1
      go_wp2
      go_round
      case rel => exact ⟨k + 1, by omega, by go_num, by rw [HT.out]; go_num⟩
      case measure => simp [intOf]; omega
    · obtain rfl : k = L := by omega
      have ht1 := HN.out
      go_wp2_with fail
      refine (sGrow (total S k) _ (by omega)).mono ?_
      rintro x w1 ⟨v0, rfl, ho, hb⟩
      have HO := Lib.hid ho
      have HB := Lib.hid hb
      clear ho hb
      go_wp2
      go_loopw [6, 27] (fun v i wr => ∃ j : Nat, j ≤ k ∧ i = .int .i64 j ∧ Ow sv wr w.heap.size 9 v (total S j) (flat S j) ∧ Below w.heap.size w wr) (fun _ i _ => k - (intOf i).toNat)
      case atStart => exact ⟨0, Nat.zero_le _, rfl, HO.out, HB.out⟩
      case round =>
        obtain ⟨j, hj, rfl, ho, hb⟩ := hrel
        have HO2 := Lib.hid ho
        have HB2 := Lib.hid hb
        have HS2 := Lib.hid (HS.out.later hb)
        clear ho hb HO HB
        by_cases hlt : j < k
        · obtain ⟨s, hs⟩ : ∃ s, S[j]? = some s := ⟨_, List.getElem?_eq_getElem (by have := HL.out; omega)⟩
          obtain ⟨hc, hsl⟩ := HS2.out j s hs
          have HT := Lib.hid (total_succ S j s hs)
          have HF := Lib.hid (flat_succ S j s hs)
          have hsum : total S j + s.n ≤ 1000000 := by have := HT.out; have := total_le S (j + 1); rw [HL.out] at this; omega
          have hx := index_run2 75 g k j 22 Try.underlying75 (fun w => by kernel_rfl) (j : Int) rfl hlt
          have d1 : decide ((j : Int) < (k : Int)) = true := decide_eq_true (by omega)
          obtain ⟨A, n, c, xs⟩ := s
          simp only at hc hsum HT HF hsl
          have Hsl := Lib.hid hsl
          have hsz : w.heap.size ≤ wr.heap.size := HB2.out.size
          clear hs hsl
          go_wp2_with (at_builtin; refine wpList_append_sl selem rfl (.tmp 31) (.tmp 32) rfl w.heap.size _ (total S j) (flat S j) rfl HO2.out A n c xs rfl Hsl.out (by omega) (by omega) hsz ?_; intro v2 w2 ho3 hg3)
          have HB3 : Hid (Below w.heap.size w w2) := HB2.out.grown hg3 hsz (fun k hk => (Ow.lt HO2.out k hk).1)
          have HO3 : Hid (Ow sv w2 w.heap.size 9 v2 (total S (j + 1)) (flat S (j + 1))) := by show Ow _ _ _ _ _ _ _; rw [HT.out, HF.out]; exact ho3
          clear ho3 hg3
          go_wp2
          go_roundw
          case rel => exact ⟨j + 1, by omega, by go_num, HO3.out, HB3.out⟩
          case measure => simp [intOf]; omega
        · obtain rfl : j = k := by omega
          go_wp2
          go_ret
          exact made_of HO2.out HB2.out
set_option maxRecDepth 100000 in
set_option maxHeartbeats 2000000 in
theorem ssplice (A B : Option Addr) (n c m d a k : Nat) (i j : Int) (xs ys : List ByteArray) (w : World) (hi : i = a) (hj : j = k) (hx : Sl sv w A n c xs) (hy : Sl sv w B m d ys) (ha : a + k ≤ n) (hn : n ≤ 400000) (hm : m ≤ 400000) :
    Calls Try.prog 36 #[.slice A n c, .int .i64 i, .int .i64 j, .slice B m d] w (MadeEnd sv 9 (xs.take a ++ (ys ++ xs.drop (a + k))) w) := by
  subst hi hj
  obtain ⟨hr1, hs1⟩ := slice_hi (P := Try.prog) (t := 22) (e := 9) A n c a Try.underlying22 ssize (by omega) hx.le hx.nil
  obtain ⟨A2, hr2, hs2⟩ := slice_lo (P := Try.prog) (t := 22) (e := 9) A n c (a + k) Try.underlying22 ssize (by omega) hx.le hx.nil
  have hw : IntKind.i64.wrap ((a : Int) + (k : Int)) = ((a + k : Nat) : Int) := (IntWalk.i64_in _ (by omega)).trans (by omega)
  have h1 := hs1 w xs hx.rd
  have h2 := hs2 w xs hx.rd
  have HE : Hid (flat [(⟨A, a, c, xs.take a⟩ : Sp ByteArray), ⟨B, m, d, ys⟩, ⟨A2, n - (a + k), c - (a + k), xs.drop (a + k)⟩] 3 = xs.take a ++ (ys ++ xs.drop (a + k))) := by show _ = _; simp [flat]
  have HT : Hid (total [(⟨A, a, c, xs.take a⟩ : Sp ByteArray), ⟨B, m, d, ys⟩, ⟨A2, n - (a + k), c - (a + k), xs.drop (a + k)⟩] 3 ≤ 1000000) := by show _ ≤ _; simp [total]; omega
  have HC : Hid (∀ g W, Aft w W → Blk W g #[.slice A a c, .slice B m d, .slice A2 (n - (a + k)) (c - (a + k))] 22 → Calls Try.prog 46 #[.slice (some ⟨g, 0, none⟩) 3 3] W (MadeEnd sv 9 (xs.take a ++ (ys ++ xs.drop (a + k))) W)) := fun g W hW hB => by
    have hSp : SpAt sv [(⟨A, a, c, xs.take a⟩ : Sp ByteArray), ⟨B, m, d, ys⟩, ⟨A2, n - (a + k), c - (a + k), xs.drop (a + k)⟩] g W := by
      intro q s hs
      match q with
      | 0 => cases hs; exact ⟨hB.cell 0, h1.later hW⟩
      | 1 => cases hs; exact ⟨hB.cell 1, hy.later hW⟩
      | 2 => cases hs; exact ⟨hB.cell 2, h2.later hW⟩
      | q + 3 => cases hs
    have := sConcat g 3 _ _ rfl hSp (by omega) HT.out
    rw [HE.out] at this; exact this
  clear hx hy hs1 hs2 h1 h2 HE HT
  generalize hq : a + k = q at *
  have HQ := Lib.hid hq
  clear hq
  go_enter Try.func36, Try.ntmps36
  go_wp2
  go_region_held3 (Aft w) (repeat (first | with_reducible assumption | with_reducible exact Aft.refl _ | with_reducible exact Aft.drewN2 (by with_reducible assumption) _ | with_reducible refine Aft.drew ?_ | with_reducible refine Aft.drewN ?_ _ | with_reducible refine Aft.alloc ?_ _ | with_reducible refine Aft.below ?_ (by with_reducible assumption))) (first
    | (go_at_call 46; (with_reducible refine (HC.out _ _ (by first | with_reducible assumption | (repeat (first | with_reducible assumption | with_reducible exact Aft.refl _ | with_reducible exact Aft.drewN2 (by with_reducible assumption) _ | with_reducible refine Aft.drew ?_ | with_reducible refine Aft.drewN ?_ _ | with_reducible refine Aft.alloc ?_ _ | with_reducible refine Aft.below ?_ (by with_reducible assumption)))) (by first | exact Blk.new _ _ _ | exact Blk.drewl (Blk.new _ _ _) | exact Blk.drewNl (Blk.new _ _ _))).mono ?_);  rintro x w2 ⟨v, rfl, ho, hb⟩; have ho2 := Ow.base ho (Aft.size (w := w) (by (repeat (first | with_reducible assumption | with_reducible exact Aft.refl _ | with_reducible exact Aft.drewN2 (by with_reducible assumption) _ | with_reducible refine Aft.drew ?_ | with_reducible refine Aft.drewN ?_ _ | with_reducible refine Aft.alloc ?_ _ | with_reducible refine Aft.below ?_ (by with_reducible assumption)))))))
  all_goals (go_wp2; go_ret; exact made_fin (by assumption) ho2)
theorem sindex (g off m c k : Nat) (i : Int) (hi : i = (k : Int)) (h : k < m) (W : World) : (Instr.indexAt 22 (.slice (some ⟨g, off, none⟩) m c) (.int .i64 i)).run Try.prog W = .ok (.pointer (some ⟨g, off + k, none⟩)) W := by
  subst hi
  have h1 : (0 : Int) ≤ (k : Int) ∧ (k : Int) < (m : Int) := by omega
  go_simp
set_option maxRecDepth 100000 in
set_option maxHeartbeats 2000000 in
theorem sClone (A : Option Addr) (n c : Nat) (xs : List ByteArray) (w : World) (hx : Sl sv w A n c xs) (hn : n ≤ 1000000) : Calls Try.prog 38 #[.slice A n c] w (MadeEnd sv 9 xs w) := by
  cases A with
  | none =>
    obtain ⟨rfl, rfl⟩ := hx.nil rfl
    have hv : Hid (MadeEnd sv 9 xs w (.returned (.slice none 0 0)) w) := by
      have : xs = [] := List.eq_nil_of_length_eq_zero hx.len
      subst this; exact ⟨_, rfl, Ow.none _ _ _, Below.refl _ _⟩
    have hq := fun W => Lib.run_eql_slice_nil (P := Try.prog) W 22 9 none 0 0 0 0 Try.underlying22
    clear hx
    go_enter Try.func38, Try.ntmps38
    go_wp2
    go_ret
    exact hv.out
  | some a =>
    have hb0 : Below w.heap.size w (w.alloc (.cells #[] 9)) := (Below.refl _ _).alloc (Nat.le_refl _) _
    have HX := Lib.hid (hx.later hb0)
    have HO := Lib.hid (Ow.fresh (enc := sv) (B := w.heap.size) (B' := w.heap.size) w 9 (Nat.le_refl _) rfl)
    have HB0 := Lib.hid hb0
    have hq := fun W => Lib.run_eql_slice_nil (P := Try.prog) W 22 9 (some a) n c 0 0 Try.underlying22
    clear hx hb0
    go_enter Try.func38, Try.ntmps38
    go_wp2_with (at_builtin; refine wpList_append_sl selem rfl (.tmp 5) (.tmp 6) rfl w.heap.size _ 0 [] rfl HO.out (some a) n c xs rfl HX.out (by omega) (by omega) (by simp) ?_; intro v2 w2 ho3 hg3)
    have hb := HB0.out.grown hg3 (by simp) (fun k hk => (Ow.lt HO.out k hk).1)
    simp only [List.nil_append] at ho3
    go_wp2
    go_ret
    exact made_of ho3 hb
set_option maxRecDepth 100000 in
set_option maxHeartbeats 2000000 in
theorem sEqual (A A' : Option Addr) (n m c c' : Nat) (xs ys : List ByteArray) (w : World) (hx : Rd sv w.heap.size w A n xs) (hy : Rd sv w.heap.size w A' m ys) (hn : n ≤ 1000000) (hm : m ≤ 1000000) :
    Calls Try.prog 42 #[.slice A n c, .slice A' m c'] w (EqEnd (decide (xs = ys)) w) := by
  have Hs := Lib.hid hx
  have Hu := Lib.hid hy
  clear hx hy
  by_cases hnm : n = m
  · obtain rfl := hnm
    go_enter Try.func42, Try.ntmps42
    go_wp2
    go_loopw [13] (fun i wr => ∃ k : Nat, k ≤ n ∧ i = .int .i64 k ∧ (∀ j, j < k → xs[j]? = ys[j]?) ∧ ∃ d, wr = w.drewN d) (fun i _ => n - (intOf i).toNat)
    case atStart => exact ⟨0, by omega, rfl, fun j hj => by omega, 0, rfl⟩
    case round =>
      obtain ⟨k, hk, rfl, hall, d, rfl⟩ := hrel
      have Hall := Lib.hid hall
      clear hall
      by_cases hlt : k < n
      · obtain ⟨g, off, x, rfl, hxk, hck⟩ := Hs.out.at hlt
        obtain ⟨g', off', y, rfl, hyk, hck'⟩ := Hu.out.at hlt
        have Hv := Lib.hid hxk
        have Hu2 := Lib.hid hyk
        have hx1 := sindex g off n c k (k : Int) rfl hlt
        have hx2 := sindex g' off' n c' k (k : Int) rfl hlt
        simp only [sv] at hck hck'
        clear hxk hyk
        by_cases he : x = y
        · have Hall2 : Hid (∀ j, j < k + 1 → xs[j]? = ys[j]?) := fun j hj => by
            by_cases e : j = k
            · subst e; rw [Hv.out, Hu2.out, he]
            · exact Hall.out j (by omega)
          have d1 := seq_yes he
          clear he
          go_wp2
          go_quiet (fail)
          clear hck hck' hx1 hx2
          go_wp2
          go_roundw
          case rel => exact ⟨k + 1, by omega, by go_num, Hall2.out, d + nq, by first | rfl | simp⟩
          case measure => simp [intOf]; omega
        · have HR : Hid (decide (xs = ys) = false) := decide_eq_false (fun e => he (Option.some.inj (by rw [← Hv.out, ← Hu2.out, e])))
          have d1 := seq_no he
          clear he
          go_wp2
          go_quiet (fail)
          clear hck hck' hx1 hx2
          go_wp2
          go_ret
          exact eqEnd_of (k := d + nq) HR.out (by first | rfl | simp)
      · obtain rfl : k = n := by omega
        have HR : Hid (decide (xs = ys) = true) := decide_eq_true (by
          apply List.ext_getElem?
          intro i
          by_cases hi : i < k
          · exact Hall.out i hi
          · rw [List.getElem?_eq_none (by have := Hs.out.1; omega), List.getElem?_eq_none (by have := Hu.out.1; omega)])
        go_wp2
        go_ret
        exact eqEnd_of (k := d) HR.out rfl
  · have HR : Hid (decide (xs = ys) = false) := decide_eq_false (fun e => hnm (by rw [← Hs.out.1, ← Hu.out.1, e]))
    have h1 : ((n : Int) != (m : Int)) = true := by rw [bne_iff_ne]; omega
    go_enter Try.func42, Try.ntmps42
    go_wp2
    go_ret
    exact eqEnd_of (k := 0) HR.out rfl
end Go.Proofs.Ytiojjpmkiljngaa
