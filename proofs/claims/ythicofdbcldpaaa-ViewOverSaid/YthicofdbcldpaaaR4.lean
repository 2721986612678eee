/-
Of writers that begin, one behind the other, and end: the view that one has when it begins sees itself, and just those that had ended by then; of two views the later one sees all that the earlier one saw, but that one.
-/
import Derived.Test.YthicofdbcldpaaaU
namespace Go.Proofs.Ythicofdbcldpaaa.viewOver
open Go.ChangeShapes Go.WideShapes Go.ChangeAt Go.RowKit Go.Shelf Go.Sort Go.Lib
set_option linter.unusedVariables false
set_option linter.unusedSimpArgs false

theorem own : ownKnob Try.prog.godebug = none := by kernel_rfl
theorem laidOut : laidOutB Try.prog = true := by kernel_rfl

theorem rises_len : ∀ {l : List Int} {n : Nat}, Rises l → (∀ w ∈ l, 1 ≤ w ∧ w ≤ n) → l.length ≤ n := by
  have key : ∀ (l : List Int) (a : Int) (n : Nat), Rises l → (∀ w ∈ l, a ≤ w ∧ w ≤ n) → a ≤ n + 1 → (l.length : Int) ≤ n + 1 - a := by
    intro l
    induction l with
    | nil => intro a n _ _ h; simp; omega
    | cons x l ih =>
      intro a n h1 h2 h3
      have hp := List.pairwise_cons.1 h1
      have hx := h2 x List.mem_cons_self
      have := ih (x + 1) n hp.2 (fun w hw => ⟨by have := hp.1 w hw; omega, (h2 w (List.mem_cons_of_mem _ hw)).2⟩) (by omega)
      rw [List.length_cons]; omega
  intro l n h1 h2
  have := key l 1 n h1 h2 (by omega)
  omega
theorem rowv_form {W : World} {B : Nat} {v : Value} {gs : List (Nat × Nat)} {vs : List (List Int)} (h : RowV W B v gs vs) : ∃ A c, v = .slice A vs.length c := by
  rcases h.2 with ⟨e, e2⟩ | ⟨g, cap, cur, rfl, _⟩
  · exact ⟨none, 0, by rw [e, e2]⟩
  · exact ⟨_, _, rfl⟩
theorem mr_v {w0 W : World} {g7 N j g5 m5 c5 : Nat} {s : Ov} {V4 V6 : Value} {gs : List (Nat × Nat)} {es : List Value} (h : MR w0 g7 N s V4 (.slice (some ⟨g5, 0, none⟩) m5 c5) V6 gs es W) (hj : j < s.views.length) (jn : Int) (hjn : ((j + 1 : Nat) : Int) = jn) :
    W.cell? ⟨g5, j * 3, none⟩ = some (.int .i64 jn) ∧ W.cell? ⟨g5, j * 3 + 1, none⟩ = some (.int .i64 jn) ∧ W.cell? ⟨g5, j * 3 + 1 + 1, none⟩ = some (.slice (some ⟨(gs.getD j (0, 0)).1, 0, none⟩) (refOf jn jn (s.views.getD j [])).length (gs.getD j (0, 0)).2) ∧
      Ints W.heap.size W (some ⟨(gs.getD j (0, 0)).1, 0, none⟩) (refOf jn jn (s.views.getD j [])).length (refOf jn jn (s.views.getD j [])) := by
  subst hjn
  obtain ⟨g, cap, e, h1, h2, h3⟩ := rowv_at h.rv hj
  injection e with e1 _ _; injection e1 with e1; injection e1 with e1; subst e1
  exact ⟨h1, h2, h3, (h.own j hj).ints⟩
theorem mr_e {w0 W : World} {g7 N j g6 m6 c6 ge ce x : Nat} {s : Ov} {V4 V5 : Value} {gs : List (Nat × Nat)} {es : List Value} (h : MR w0 g7 N s V4 V5 (.slice (some ⟨g6, 0, none⟩) m6 c6) gs es W) (hj : j < s.ended.length)
    (he : es.getD j (.slice none 0 0) = .slice (some ⟨ge, 0, none⟩) (N + 2) ce) (hl : (s.ended.getD j []).length = N + 2) (hx : x < N + 2) :
    W.cell? ⟨g6, j, none⟩ = some (.slice (some ⟨ge, 0, none⟩) (N + 2) ce) ∧ W.cell? ⟨ge, x, none⟩ = some (.bool ((s.ended.getD j []).getD x false)) := by
  obtain ⟨g, cap, e, h1⟩ := rows_at h.rs (i := j) (by rw [h.sl]; exact hj)
  injection e with e1 _ _; injection e1 with e1; injection e1 with e1; subst e1
  rw [he] at h1
  refine ⟨h1, ?_⟩
  have hb := h.rb j hj
  rw [he] at hb
  obtain ⟨g, cap, e, h2⟩ := rowb_at hb (i := x) (by rw [hl]; exact hx)
  injection e with e1 _ _; injection e1 with e1; injection e1 with e1; subst e1
  exact h2
theorem mr_vx {w0 W0 : World} {g7 N j g5 m5 c5 i : Nat} {s : Ov} {V4 V6 : Value} {gs : List (Nat × Nat)} {es : List Value} (h : MR w0 g7 N s V4 (.slice (some ⟨g5, 0, none⟩) m5 c5) V6 gs es W0) (hk : OvOk s i N) (hj : j < s.views.length) (hi : i ≤ 1000) (jn : Int) (hjn : ((j + 1 : Nat) : Int) = jn) :
    ∃ gj cj mj Rj, Hid (∀ W, Below W0.heap.size W0 W → W.cell? ⟨g5, j * 3, none⟩ = some (.int .i64 jn) ∧ W.cell? ⟨g5, j * 3 + 1, none⟩ = some (.int .i64 jn) ∧ W.cell? ⟨g5, j * 3 + 1 + 1, none⟩ = some (.slice (some ⟨gj, 0, none⟩) mj cj) ∧ Ints W.heap.size W (some ⟨gj, 0, none⟩) mj Rj) ∧
      mj ≤ 1000000 ∧ Hid (∀ x : Nat, 1 ≤ x → sees jn jn Rj (x : Int) = (decide (x = j + 1) || (s.ended.getD j []).getD x false)) ∧ Hid (Rj = refOf jn jn (s.views.getD j [])) := by
  refine ⟨_, _, _, _, fun W hb => mr_v (h.later hb) hj jn hjn, ?_, fun x hx => ?_, rfl⟩
  · have := rises_len (n := j + 1) (refOf_rises jn jn (s.views.getD j [])) (fun w hw => by have := drop_mem hw; omega)
    have := hk.len
    omega
  · have := ov_sees hk hj hx
    rw [hjn] at this
    exact this
theorem rowb_form {W : World} {B : Nat} {v : Value} {bs : List Bool} (h : RowB W B v bs) : ∃ A n c, v = .slice A n c := by
  rcases h.2 with ⟨rfl, _⟩ | ⟨g, cap, cur, rfl, _⟩
  · exact ⟨_, _, _, rfl⟩
  · exact ⟨_, _, _, rfl⟩
set_option maxRecDepth 100000 in
set_option maxHeartbeats 20000000 in
theorem walk_in (A : Option Addr) (n c : Nat) (xs : List Int) (w : World) (hs : Bts w A n xs) (hm : n ≤ maxLen) (hr : ∀ x ∈ xs, 0 ≤ x ∧ x ≤ 255) :
    Calls Try.prog 6 #[.slice A n c] w fun e w' => e = .returned (.bool true) ∧ Below w.heap.size w w' := by
  unfold maxLen at hm
  have V0 := Lib.hid hs
  have V00 := Lib.hid hs
  have HX := Lib.hid hr
  clear hs hr
  by_cases z1 : 200 < n
  · have d1 : decide (200 < n) = true := decide_eq_true z1
    have d1' : decide ((200 : Int) < (n : Int)) = true := decide_eq_true (by omega)
    go_enter Try.func6, Try.ntmps6
    go_wp2_with fail
    refine (awake_any _).mono ?_
    rintro e w1 ⟨rfl, hb⟩
    have H1 : Hid (Below w.heap.size w w1) := hb
    clear hb
    go_wp2_with fail
    go_ret
    exact ⟨rfl, H1.out⟩
  have d1 : decide (200 < n) = false := decide_eq_false z1
  have d1' : decide ((200 : Int) < (n : Int)) = false := decide_eq_false (by omega)
  go_enter Try.func6, Try.ntmps6
  go_wp2_with fail
  refine (awake_any _).mono ?_
  rintro e w1 ⟨rfl, hb⟩
  replace V0 := Lib.hid (V0.out.later hb)
  have H1 : Hid (Below w.heap.size w w1) := hb
  clear hb
  obtain ⟨i0, hi, hz0, hz1, hz2⟩ := info_parts v4info
  obtain ⟨w2, hrun, hown, hgrow⟩ := run_make_full (P := Try.prog) w1 w.heap.size 43 4 i0 _ 1 Try.underlying43 hi hz0 hz1 .i64 .i64 (n + 2) (by rw [hz2]; omega) (by unfold maxLen; omega) H1.out.size
  rw [show ((n + 2 : Nat) : Int) = (n : Int) + 2 from by omega] at hrun
  have hb := below_of_grownN hgrow
  obtain ⟨g7, hg7⟩ : ∃ g, w1.heap.size = g := ⟨_, rfl⟩
  have hlo : w.heap.size ≤ g7 := by rw [← hg7]; exact H1.out.size
  rw [hg7] at hrun hown
  have HM0 : Hid (MR w g7 n ⟨[], [], [], List.replicate (n + 2) false⟩ (.slice none 0 0) (.slice none 0 0) (.slice none 0 0) [] [] w2) := by
    refine ⟨stepB H1.out hb, hlo, ?_, World.ownsRow_nil _ _ _ _, rfl, World.ownsRow_nil _ _ _ _, fun i h => absurd h (by simp), rfl, World.ownsRow_nil _ _ _ _, fun i h => absurd h (by simp)⟩
    show w2.ownsRow _ 4 1 _ (List.replicate (n + 2) false).length _
    rw [List.length_replicate, List.map_replicate]
    have e : (madeCells (Value.bool false).cells ((n + 2) * 1)).toList = List.replicate (n + 2) (Value.bool false) := by rw [Nat.mul_one]; exact toList_madeCells_one _ _
    rw [← e]; exact hown
  clear hown hgrow hi hz0 hz1 hz2 hg7
  replace V0 := Lib.hid (V0.out.later hb)
  have H1 : Hid (Below w.heap.size w w2) := stepB H1.out hb
  clear hb H1

  go_wp2
  go_loopw [3, 4, 5, 6, 8] (fun s3 V4 V5 V6 s8 wr => ∃ (k : Nat) (s : Ov) (gs : List (Nat × Nat)) (es : List Value), k ≤ n ∧ s8 = .int .i64 k ∧ s3 = .int .i64 ((s.views.length + 1 : Nat) : Int) ∧ OvOk s k n ∧ MR w g7 n s V4 V5 V6 gs es wr) (fun _ _ _ _ s8 _ => n - (intOf s8).toNat)
  case atStart => exact ⟨0, _, [], [], by omega, rfl, rfl, ov_start n, HM0.out⟩
  case round =>
    obtain ⟨k, s, gs, es, hk, rfl, rfl, hok, hMR⟩ := hrel
    obtain ⟨wo, rfl⟩ : ∃ wo : World, wo = wr := ⟨_, rfl⟩
    obtain ⟨nx, hnx⟩ : ∃ nx : Int, ((s.views.length + 1 : Nat) : Int) = nx := ⟨_, rfl⟩
    rw [hnx]
    have hnx1 : 1 ≤ nx := by omega
    have hnx2 : nx ≤ 1000 := by have := hok.len; omega
    have Hnx := Lib.hid hnx
    clear hnx
    by_cases hlt : k < n
    case pos =>
      have V0r := Lib.hid (V00.out.later hMR.below)
      obtain ⟨g0, off0, rfl, hg0, hc0⟩ := V0r.out.2 (by omega)
      have hck := hc0 k hlt
      have hxr := HX.out _ (getD_mem (l := xs) (j := k) (by rw [V00.out.1]; exact hlt))
      obtain ⟨x, hx⟩ : ∃ x : Nat, xs.getD k 0 = (x : Int) := ⟨(xs.getD k 0).toNat, by omega⟩
      rw [hx] at hck hxr
      have hx1 := idx40 g0 off0 n c k hlt
      clear hc0 hx V0r
      by_cases q1 : x = 0
      · subst q1
        have hvl := hok.len
        have hel := hok.el
        obtain ⟨A4, c4, rfl, hS4⟩ := own_sl hMR.busy
        have HM := Lib.hid hMR
        have HK := Lib.hid hok
        have S4 := Lib.hid hS4
        have hbl : s.busy.length ≤ s.views.length := rises_len hok.rb (fun w hw => (hok.bb w hw))
        clear hMR hok hS4
        go_wp2_with fail
        refine (Of_any nx nx A4 s.busy.length c4 s.busy _ S4.out.ints (by omega)).mono ?_
        rintro e wa ⟨g, cap, rfl, hO, hb⟩
        have hga := HM.out.lt
        have hO2 : Own wa (g7 + 1) g cap (refOf nx nx s.busy) := row_base hO (by omega)
        have hb2 : Below wo.heap.size wo (wa.alloc (.cells #[.int .i64 nx, .int .i64 nx, .slice (some ⟨g, 0, none⟩) (refOf nx nx s.busy).length cap] 25)) := hb.alloc hb.size _
        have M1 := Lib.hid (HM.out.later hb2)
        have O1 : Hid (Own (wa.alloc (.cells #[.int .i64 nx, .int .i64 nx, .slice (some ⟨g, 0, none⟩) (refOf nx nx s.busy).length cap] 25)) (g7 + 1) g cap (refOf nx nx s.busy)) := row_later hO2 ((Below.refl _ _).alloc (Nat.le_refl _) _)
        have S1 := Lib.hid (⟨S4.out.ints.later hb2, S4.out.le, S4.out.nil⟩ : Sl _ _ A4 s.busy.length c4 s.busy)
        have K1 : Hid (Blk (wa.alloc (.cells #[.int .i64 nx, .int .i64 nx, .slice (some ⟨g, 0, none⟩) (refOf nx nx s.busy).length cap] 25)) wa.heap.size (vcell s.views.length (g, cap) s.busy).toArray 25) := by
          have := Blk.new wa #[.int .i64 nx, .int .i64 nx, .slice (some ⟨g, 0, none⟩) (refOf nx nx s.busy).length cap] 25
          show Blk _ _ _ _
          unfold vcell
          rw [Hnx.out]
          exact this
        have hsa := hb.size
        clear hO hO2 hb2 HM S4
        go_wp2_with (at_builtin; refine wpList_append_view rfl (.tmp 40) (.tmp 45) rfl (g7 + 1) _ gs s.views (g, cap) s.busy M1.out.gl rfl M1.out.rv wa.heap.size rfl K1.out (by omega) (by simp; omega) ?_)
        intro v5 w5 hR5 hg5
        have M5 := Lib.hid (M1.out.view (by rw [Hnx.out]; exact O1.out) hR5 hg5)
        have S5 : Hid (Sl w5.heap.size w5 A4 s.busy.length c4 s.busy) := by
          obtain ⟨A2, c2, e, h⟩ := own_sl M5.out.busy
          cases e; exact h
        have hg7 := M5.out.lt
        have M6 := Lib.hid (M5.out.later ((Below.refl _ _).alloc (Nat.le_refl _) (.cells #[] 4)))
        have O6 : Hid ((w5.alloc (.cells #[] 4)).ownsRow w5.heap.size 4 1 (.slice (some ⟨w5.heap.size, 0, none⟩) 0 0) 0 []) := World.ownsRow_lit (base := w5.heap.size) (e := 4) (size := 1) w5 #[] 0 (Nat.le_refl _) (by omega) rfl
        clear hR5 hg5 M1 O1 S1 K1
        go_wp2_with (at_builtin; refine wpList_append_bools rfl (.tmp 48) (.tmp 49) rfl w5.heap.size w.heap.size _ s.over rfl O6.out g7 (n + 2) (n + 2) HK.out.ol rfl M6.out.over (by have := HK.out.ol; omega) (by simp) ?_)
        intro v6 w6 hR6 hg6
        have hb6 : Below w5.heap.size w5 w6 := ((Below.refl _ w5).alloc (Nat.le_refl _) _).grown hg6 (by simp) (fun j e => by simp [Value.ownBlock] at e; omega)
        have hb7 : Below w5.heap.size w5 (w6.alloc (.cells #[v6] 43)) := hb6.alloc hb6.size _
        have M7 := Lib.hid (M5.out.later hb7)
        have R7 : Hid (RowB (w6.alloc (.cells #[v6] 43)) (g7 + 1) v6 s.over) := row_later (row_base hR6 (by omega)) ((Below.refl _ _).alloc (Nat.le_refl _) _)
        have K7 := Lib.hid (Blk.new w6 #[v6] 43)
        have hs6 := hb6.size
        have hv6 := rowb_one hR6
        obtain ⟨A6, n6, c6, rfl⟩ := rowb_form hR6
        clear hR6 hg6 hb6 hb7 M6 O6 M5 S5
        go_wp2_with (at_builtin; refine wpList_append_slice rfl (.tmp 47) (.tmp 51) rfl (g7 + 1) _ es (.slice A6 n6 c6) rfl M7.out.rs w6.heap.size rfl K7.out hv6 (by have := M7.out.sl; simp at this; omega) (by simp; omega) ?_)
        intro v7 w7 hR7 hg7'
        have M8 := Lib.hid (M7.out.slice R7.out hR7 hg7')
        have hg8 := M8.out.lt
        have hb8 : Below w7.heap.size w7 (w7.alloc (.cells #[] 3)) := (Below.refl _ _).alloc (Nat.le_refl _) _
        have S8 : Hid (Sl (w7.alloc (.cells #[] 3)).heap.size (w7.alloc (.cells #[] 3)) A4 s.busy.length c4 s.busy) := by
          obtain ⟨A2, c2, e, h⟩ := own_sl (M8.out.later hb8).busy
          cases e; exact h
        have O8 : Hid (OwnL (w7.alloc (.cells #[] 3)) w7.heap.size (.slice (some ⟨w7.heap.size, 0, none⟩) 0 0) 0 []) := World.ownsRow_lit (base := w7.heap.size) (e := 3) (size := 1) w7 #[] 0 (Nat.le_refl _) (by omega) rfl
        have B8 := Lib.hid hb8
        clear hR7 hg7' M7 R7 K7 hb8
        go_wp2_with (at_builtin; refine wpList_append_ints rfl (.tmp 53) (.tmp 54) rfl w7.heap.size _ 0 [] rfl O8.out A4 _ _ s.busy rfl _ S8.out (by omega) (by simp) ?_)
        intro v8 w8 hO9 hg9
        try simp only [Nat.zero_add, List.nil_append] at hO9
        have hb9 : Below w7.heap.size w7 w8 := B8.out.grown hg9 (by simp) (fun j e => by simp [Value.ownBlock] at e; omega)
        have O9 : Hid (OwnL (w8.alloc (.cells #[.int .i64 nx] 3)) w7.heap.size v8 s.busy.length s.busy) := World.ownsRow.alloc hO9 _
        have S9 := Lib.hid (ints_lit w8 [nx])
        have S9' : Hid (Sl (w8.alloc (.cells #[.int .i64 nx] 3)).heap.size (w8.alloc (.cells #[.int .i64 nx] 3)) (some ⟨w8.heap.size, 0, none⟩) 1 1 [nx]) := ⟨S9.out, Nat.le_refl _, fun e => by cases e⟩
        have B9 := Lib.hid hb9
        have hs9 := hb9.size
        clear hO9 hg9 hb9 O8 S8 B8 S9
        go_wp2_with (at_builtin; refine wpList_append_ints rfl (.tmp 55) (.tmp 57) rfl w7.heap.size _ s.busy.length s.busy rfl O9.out _ _ _ [nx] rfl _ S9'.out (by omega) (by simp; omega) ?_)
        intro v9 w9 hO10 hg10
        have hb10 : Below w7.heap.size w7 w9 := (B9.out.alloc hs9 _).grown hg10 (by simp; omega) (fun g e => (World.ownsRow.lt O9.out g e).1)
        have M9 : Hid (MR w g7 n (ovBegin s) v9 v5 v7 (gs ++ [(g, cap)]) (es ++ [.slice A6 n6 c6]) w9) := (M8.out.later hb10).turn (V' := v9) (b := s.busy ++ [((s.views.length + 1 : Nat) : Int)]) (by
          rw [List.length_append, List.length_singleton, Hnx.out]; exact row_base hO10 (by omega))
        clear hO10 hg10 hb10 O9 S9' B9 M8
        go_wp2_with fail
        go_roundw
        case rel => exact ⟨k + 1, ovBegin s, gs ++ [(g, cap)], es ++ [.slice A6 n6 c6], by omega, by go_num, by (have h := Hnx.out; simp [ovBegin] at h ⊢; omega), ov_begin HK.out, M9.out⟩
        case measure => simp [intOf]; omega
      have e1 : ((x : Int) == 0) = false := by rw [beq_eq_false_iff_ne]; omega
      by_cases q2 : s.busy.length = 0
      · have e2 : ((s.busy.length : Int) == 0) = true := by rw [beq_iff_eq]; omega
        have Q2 := Lib.hid q2
        clear q2
        have hvl := hok.len
        have hel := hok.el
        obtain ⟨A4, c4, rfl, hS4⟩ := own_sl hMR.busy
        have HM := Lib.hid hMR
        have HK := Lib.hid hok
        have S4 := Lib.hid hS4
        have hbl : s.busy.length ≤ s.views.length := rises_len hok.rb (fun w hw => (hok.bb w hw))
        clear hMR hok hS4
        go_wp2_with fail
        refine (Of_any nx nx A4 s.busy.length c4 s.busy _ S4.out.ints (by omega)).mono ?_
        rintro e wa ⟨g, cap, rfl, hO, hb⟩
        have hga := HM.out.lt
        have hO2 : Own wa (g7 + 1) g cap (refOf nx nx s.busy) := row_base hO (by omega)
        have hb2 : Below wo.heap.size wo (wa.alloc (.cells #[.int .i64 nx, .int .i64 nx, .slice (some ⟨g, 0, none⟩) (refOf nx nx s.busy).length cap] 25)) := hb.alloc hb.size _
        have M1 := Lib.hid (HM.out.later hb2)
        have O1 : Hid (Own (wa.alloc (.cells #[.int .i64 nx, .int .i64 nx, .slice (some ⟨g, 0, none⟩) (refOf nx nx s.busy).length cap] 25)) (g7 + 1) g cap (refOf nx nx s.busy)) := row_later hO2 ((Below.refl _ _).alloc (Nat.le_refl _) _)
        have S1 := Lib.hid (⟨S4.out.ints.later hb2, S4.out.le, S4.out.nil⟩ : Sl _ _ A4 s.busy.length c4 s.busy)
        have K1 : Hid (Blk (wa.alloc (.cells #[.int .i64 nx, .int .i64 nx, .slice (some ⟨g, 0, none⟩) (refOf nx nx s.busy).length cap] 25)) wa.heap.size (vcell s.views.length (g, cap) s.busy).toArray 25) := by
          have := Blk.new wa #[.int .i64 nx, .int .i64 nx, .slice (some ⟨g, 0, none⟩) (refOf nx nx s.busy).length cap] 25
          show Blk _ _ _ _
          unfold vcell
          rw [Hnx.out]
          exact this
        have hsa := hb.size
        clear hO hO2 hb2 HM S4
        go_wp2_with (at_builtin; refine wpList_append_view rfl (.tmp 40) (.tmp 45) rfl (g7 + 1) _ gs s.views (g, cap) s.busy M1.out.gl rfl M1.out.rv wa.heap.size rfl K1.out (by omega) (by simp; omega) ?_)
        intro v5 w5 hR5 hg5
        have M5 := Lib.hid (M1.out.view (by rw [Hnx.out]; exact O1.out) hR5 hg5)
        have S5 : Hid (Sl w5.heap.size w5 A4 s.busy.length c4 s.busy) := by
          obtain ⟨A2, c2, e, h⟩ := own_sl M5.out.busy
          cases e; exact h
        have hg7 := M5.out.lt
        have M6 := Lib.hid (M5.out.later ((Below.refl _ _).alloc (Nat.le_refl _) (.cells #[] 4)))
        have O6 : Hid ((w5.alloc (.cells #[] 4)).ownsRow w5.heap.size 4 1 (.slice (some ⟨w5.heap.size, 0, none⟩) 0 0) 0 []) := World.ownsRow_lit (base := w5.heap.size) (e := 4) (size := 1) w5 #[] 0 (Nat.le_refl _) (by omega) rfl
        clear hR5 hg5 M1 O1 S1 K1
        go_wp2_with (at_builtin; refine wpList_append_bools rfl (.tmp 48) (.tmp 49) rfl w5.heap.size w.heap.size _ s.over rfl O6.out g7 (n + 2) (n + 2) HK.out.ol rfl M6.out.over (by have := HK.out.ol; omega) (by simp) ?_)
        intro v6 w6 hR6 hg6
        have hb6 : Below w5.heap.size w5 w6 := ((Below.refl _ w5).alloc (Nat.le_refl _) _).grown hg6 (by simp) (fun j e => by simp [Value.ownBlock] at e; omega)
        have hb7 : Below w5.heap.size w5 (w6.alloc (.cells #[v6] 43)) := hb6.alloc hb6.size _
        have M7 := Lib.hid (M5.out.later hb7)
        have R7 : Hid (RowB (w6.alloc (.cells #[v6] 43)) (g7 + 1) v6 s.over) := row_later (row_base hR6 (by omega)) ((Below.refl _ _).alloc (Nat.le_refl _) _)
        have K7 := Lib.hid (Blk.new w6 #[v6] 43)
        have hs6 := hb6.size
        have hv6 := rowb_one hR6
        obtain ⟨A6, n6, c6, rfl⟩ := rowb_form hR6
        clear hR6 hg6 hb6 hb7 M6 O6 M5 S5
        go_wp2_with (at_builtin; refine wpList_append_slice rfl (.tmp 47) (.tmp 51) rfl (g7 + 1) _ es (.slice A6 n6 c6) rfl M7.out.rs w6.heap.size rfl K7.out hv6 (by have := M7.out.sl; simp at this; omega) (by simp; omega) ?_)
        intro v7 w7 hR7 hg7'
        have M8 := Lib.hid (M7.out.slice R7.out hR7 hg7')
        have hg8 := M8.out.lt
        have hb8 : Below w7.heap.size w7 (w7.alloc (.cells #[] 3)) := (Below.refl _ _).alloc (Nat.le_refl _) _
        have S8 : Hid (Sl (w7.alloc (.cells #[] 3)).heap.size (w7.alloc (.cells #[] 3)) A4 s.busy.length c4 s.busy) := by
          obtain ⟨A2, c2, e, h⟩ := own_sl (M8.out.later hb8).busy
          cases e; exact h
        have O8 : Hid (OwnL (w7.alloc (.cells #[] 3)) w7.heap.size (.slice (some ⟨w7.heap.size, 0, none⟩) 0 0) 0 []) := World.ownsRow_lit (base := w7.heap.size) (e := 3) (size := 1) w7 #[] 0 (Nat.le_refl _) (by omega) rfl
        have B8 := Lib.hid hb8
        clear hR7 hg7' M7 R7 K7 hb8
        go_wp2_with (at_builtin; refine wpList_append_ints rfl (.tmp 53) (.tmp 54) rfl w7.heap.size _ 0 [] rfl O8.out A4 _ _ s.busy rfl _ S8.out (by omega) (by simp) ?_)
        intro v8 w8 hO9 hg9
        try simp only [Nat.zero_add, List.nil_append] at hO9
        have hb9 : Below w7.heap.size w7 w8 := B8.out.grown hg9 (by simp) (fun j e => by simp [Value.ownBlock] at e; omega)
        have O9 : Hid (OwnL (w8.alloc (.cells #[.int .i64 nx] 3)) w7.heap.size v8 s.busy.length s.busy) := World.ownsRow.alloc hO9 _
        have S9 := Lib.hid (ints_lit w8 [nx])
        have S9' : Hid (Sl (w8.alloc (.cells #[.int .i64 nx] 3)).heap.size (w8.alloc (.cells #[.int .i64 nx] 3)) (some ⟨w8.heap.size, 0, none⟩) 1 1 [nx]) := ⟨S9.out, Nat.le_refl _, fun e => by cases e⟩
        have B9 := Lib.hid hb9
        have hs9 := hb9.size
        clear hO9 hg9 hb9 O8 S8 B8 S9
        go_wp2_with (at_builtin; refine wpList_append_ints rfl (.tmp 55) (.tmp 57) rfl w7.heap.size _ s.busy.length s.busy rfl O9.out _ _ _ [nx] rfl _ S9'.out (by omega) (by simp; omega) ?_)
        intro v9 w9 hO10 hg10
        have hb10 : Below w7.heap.size w7 w9 := (B9.out.alloc hs9 _).grown hg10 (by simp; omega) (fun g e => (World.ownsRow.lt O9.out g e).1)
        have M9 : Hid (MR w g7 n (ovBegin s) v9 v5 v7 (gs ++ [(g, cap)]) (es ++ [.slice A6 n6 c6]) w9) := (M8.out.later hb10).turn (V' := v9) (b := s.busy ++ [((s.views.length + 1 : Nat) : Int)]) (by
          rw [List.length_append, List.length_singleton, Hnx.out]; exact row_base hO10 (by omega))
        clear hO10 hg10 hb10 O9 S9' B9 M8
        go_wp2_with fail
        go_roundw
        case rel => exact ⟨k + 1, ovBegin s, gs ++ [(g, cap)], es ++ [.slice A6 n6 c6], by omega, by go_num, by (have h := Hnx.out; simp [ovBegin] at h ⊢; omega), ov_begin HK.out, M9.out⟩
        case measure => simp [intOf]; omega
      have e2 : ((s.busy.length : Int) == 0) = false := by rw [beq_eq_false_iff_ne]; omega
      have hvl := hok.len
      obtain ⟨A4, c4, rfl, hS4⟩ := own_sl hMR.busy
      obtain ⟨kk, hkk⟩ : ∃ kk, x % s.busy.length = kk := ⟨_, rfl⟩
      have hkl : kk < s.busy.length := by rw [← hkk]; exact Nat.mod_lt _ (by omega)
      have hrem : Int.tmod (x : Int) (s.busy.length : Int) = (kk : Int) := by rw [← hkk]; rfl
      have hrem2 : (x : Int) % (s.busy.length : Int) = (kk : Int) := by rw [← hkk]; rfl
      obtain ⟨g4, off4, rfl, hg4, hc4⟩ := hS4.ints.2 (by omega)
      have hb1 := hok.bb _ (getD_mem hkl)
      obtain ⟨y, hy⟩ : ∃ y : Nat, s.busy.getD kk 0 = (y : Int) := ⟨(s.busy.getD kk 0).toNat, by omega⟩
      have hcy := hc4 kk hkl
      rw [hy] at hcy hb1
      have hx2 := index_run g4 off4 s.busy.length c4 kk (kk : Int) rfl hkl
      have hx3 := idx43 g7 (n + 2) (n + 2) y (by omega)
      have hbl : s.busy.length ≤ s.views.length := rises_len hok.rb (fun w hw => (hok.bb w hw))
      obtain ⟨g9, cap9, e9, hcb⟩ := rowb_at hMR.over (i := y) (by rw [hok.ol]; omega)
      obtain rfl : g7 = g9 := by injection e9 with e9 _ _; injection e9 with e9; injection e9
      have hfr : wo.frozen? ⟨g7, y, none⟩ = false := by
        rcases hMR.over.2 with ⟨e, _⟩ | ⟨g, cap, cur, e, hB, hg, _⟩
        · cases e
        · injection e with e1 _ _; injection e1 with e1; injection e1 with e1; subst e1; exact hfrozen hg y
      have HM := Lib.hid (hMR.set y)
      have HK := Lib.hid (ov_end hok (Nat.le_trans hk (Nat.le_refl n)) hkl)
      have Hy := Lib.hid hy
      have hle4 := hS4.le
      clear hMR hok hS4 hc4 hkk hy e9
      obtain ⟨A2, hsl, hS2⟩ := slice_lo (some ⟨g4, off4, none⟩) s.busy.length c4 (kk + 1) (by omega) hle4 (fun e => by cases e)
      obtain ⟨hsh, hS3⟩ := slice_hi (some ⟨g4, off4, none⟩) s.busy.length c4 kk (by omega) hle4 (fun e => by cases e)
      have hsl' : ∀ W, (Instr.slice 23 (.slice (some ⟨g4, off4, none⟩) s.busy.length c4) (some (.int .i64 ((kk : Int) + 1))) none none).run Try.prog W = .ok (.slice A2 (s.busy.length - (kk + 1)) (c4 - (kk + 1))) W := fun W => by
        have := hsl W
        rwa [show ((kk + 1 : Nat) : Int) = (kk : Int) + 1 from by omega] at this
      have wrk : IntKind.i64.wrap ((kk : Int) + 1) = (kk : Int) + 1 := IntWalk.i64_in _ (by omega)
      have HSL := Lib.hid hS2
      have HSH := Lib.hid hS3
      clear hsl hS2 hS3
      obtain ⟨ws, hws⟩ : ∃ ws, wo.setCell ⟨g7, y, none⟩ (.bool true) = ws := ⟨_, rfl⟩
      have hMs : MR w g7 n ⟨s.busy, s.views, s.ended, s.over.set y true⟩ (.slice (some ⟨g4, off4, none⟩) s.busy.length c4) u5 u6 gs es ws := by rw [← hws]; exact HM.out
      have HMs := Lib.hid hMs
      have Hws := Lib.hid hws
      clear hws hMs
      go_wp2_with fail
      rw [Hws.out]
      have hb0 : Below ws.heap.size ws (ws.alloc (.cells #[] 3)).drew := Below.drew ((Below.refl _ _).alloc (Nat.le_refl _) _)
      have O0 : Hid (OwnL (ws.alloc (.cells #[] 3)).drew ws.heap.size (.slice (some ⟨ws.heap.size, 0, none⟩) 0 0) 0 []) := World.ownsRow_lit (base := ws.heap.size) (e := 3) (size := 1) ws #[] 0 (Nat.le_refl _) (by omega) rfl
      have hS5 : Ints ws.heap.size ws (some ⟨g4, off4, none⟩) s.busy.length s.busy := by
        obtain ⟨A2, c2, e, h⟩ := own_sl HMs.out.busy
        cases e; exact h.ints
      have HS5 := Lib.hid hS5
      have SH := Lib.hid (HSH.out _ _ _ (hS5.later hb0))
      have B0 := Lib.hid hb0
      have hg7s := HMs.out.lt
      clear HM hx1 hck hx2 hcy hx3 hcb hfr hS5 hb0
      go_region_law (first
        | (refine step_append_ints rfl (.tmp 75) (.tmp 78) rfl ws.heap.size _ 0 [] rfl O0.out _ _ _ (s.busy.take kk) rfl _ SH.out (by omega) B0.out.size ?_; intro v1 wv1 hO1 hg1; have hbv : Below ws.heap.size ws wv1 := B0.out.grown hg1 B0.out.size (fun g e => (World.ownsRow.lt O0.out g e).1); have HO1 := Lib.hid hO1; have HBV := Lib.hid hbv; have SL := Lib.hid (HSL.out _ _ _ (HS5.out.later hbv)); clear hO1 hg1 hbv)
        | (refine step_append_ints rfl (.tmp 79) (.tmp 83) rfl ws.heap.size _ _ _ rfl HO1.out _ _ _ (s.busy.drop (kk + 1)) rfl _ SL.out (by omega) HBV.out.size ?_; intro v2 wv2 hO2 hg2; have hbv2 : Below ws.heap.size ws wv2 := HBV.out.grown hg2 HBV.out.size (fun g e => (World.ownsRow.lt HO1.out g e).1); have HO2 := Lib.hid hO2; have HBV2 := Lib.hid hbv2; clear hO2 hg2 hbv2))
      all_goals (
        have hlen : (ovEnd s kk).busy.length = kk + (s.busy.length - (kk + 1)) := by simp [ovEnd]; omega
        have HE9 : Hid (ovEnd s kk = ⟨s.busy.take kk ++ s.busy.drop (kk + 1), s.views, s.ended, s.over.set y true⟩) := by show _ = _; unfold ovEnd; rw [Hy.out]; rfl
        have M9 : Hid (MR w g7 n ⟨s.busy.take kk ++ s.busy.drop (kk + 1), s.views, s.ended, s.over.set y true⟩ v2 u5 u6 gs es wv2) := (HMs.out.later HBV2.out).turn (V' := v2) (b := s.busy.take kk ++ s.busy.drop (kk + 1)) (by
          have e : (s.busy.take kk ++ s.busy.drop (kk + 1)).length = kk + (s.busy.length - (kk + 1)) := hlen
          rw [e]
          have := HO2.out
          try simp only [Nat.zero_add, List.nil_append] at this
          exact row_base this (by omega))
        clear HO1 HO2 HBV HBV2 SL SH O0 B0 HS5
        go_wp2
        go_roundw
        case rel => exact ⟨k + 1, ovEnd s kk, gs, es, by omega, by go_num, by (have h := Hnx.out; simp [ovEnd] at h ⊢; omega), HK.out, by rw [HE9.out]; exact M9.out⟩
        case measure => simp [intOf]; omega)
    case neg =>
      obtain rfl : k = n := by omega
      have hvl := hok.len
      have hel := hok.el
      have Hel := Lib.hid hel
      have hel1 : s.ended.length ≤ s.views.length := by omega
      have hel2 : s.views.length ≤ s.ended.length := by omega
      clear hel
      obtain ⟨A5, c5, rfl⟩ := rowv_form hMR.rv
      have HM := Lib.hid hMR
      have HK := Lib.hid hok
      clear hMR hok
      go_wp2_with fail
      go_loopw [10] (fun i wr => ∃ j : Nat, j ≤ s.views.length ∧ i = .int .i64 j ∧ Below wo.heap.size wo wr) (fun i _ => s.views.length - (intOf i).toNat)
      case atStart => exact ⟨0, by omega, rfl, Below.refl _ _⟩
      case round =>
        obtain ⟨j, hj, rfl, hb⟩ := hrel
        obtain ⟨wi, rfl⟩ : ∃ wi : World, wi = wr := ⟨_, rfl⟩
        have HBi := Lib.hid hb
        clear hb
        by_cases hjl : j < s.views.length
        case neg =>
          have Hz := Lib.hid (HM.out.later HBi.out).below
          go_wp2_with fail
          go_ret
          exact ⟨rfl, Hz.out⟩
        case pos =>
          obtain ⟨g5, _, e5, _⟩ := rowv_at HM.out.rv hjl
          obtain rfl : A5 = some ⟨g5, 0, none⟩ := by injection e5
          obtain ⟨g6, c6, e6, _⟩ := rows_at HM.out.rs (i := j) (by rw [HM.out.sl]; omega)
          have hl6 : s.ended.length ≤ es.length := by rw [HM.out.sl]; exact Nat.le_refl _
          subst e6
          obtain ⟨jn, hjn⟩ : ∃ jn : Int, ((j + 1 : Nat) : Int) = jn := ⟨_, rfl⟩
          obtain ⟨ge, ce, hge⟩ : ∃ ge ce, es.getD j (.slice none 0 0) = .slice (some ⟨ge, 0, none⟩) (k + 2) ce := by
            have hb := HM.out.rb j (by omega)
            have hl := HK.out.el2 j hjl
            obtain ⟨g, cap, e, _⟩ := rowb_at hb (i := 0) (by omega)
            exact ⟨g, cap, by rw [e, hl]⟩
          obtain ⟨gj, cj, mj, Rj, CJ, hrl, SJ, RJ⟩ := mr_vx HM.out HK.out hjl (by omega) jn hjn
          have Hjn := Lib.hid hjn
          have Hge := Lib.hid hge
          have hxj := idx41 g5 s.views.length c5 j hjl
          have hx6 := idx42 g6 es.length c6 j (by omega)
          have wrj : IntKind.i64.wrap ((j : Int) + 1) = (j : Int) + 1 := IntWalk.i64_in _ (by omega)
          clear hjn hge e5
          go_wp2_with fail
          go_loopw [11] (fun i wr2 => ∃ x : Nat, 1 ≤ x ∧ x ≤ s.views.length + 1 ∧ i = .int .i64 x ∧ Below wi.heap.size wi wr2) (fun i _ => s.views.length + 1 - (intOf i).toNat)
          case atStart => exact ⟨1, by omega, by omega, rfl, Below.refl _ _⟩
          case round =>
            obtain ⟨x, hx1, hx2, rfl, hb⟩ := hrel
            obtain ⟨wj, rfl⟩ : ∃ wj : World, wj = wr := ⟨_, rfl⟩
            have HB := Lib.hid (stepB HBi.out hb)
            have HBj := Lib.hid hb
            clear hb
            by_cases hxl : x < s.views.length + 1
            case neg =>
              have dn : decide ((x : Int) < nx) = false := decide_eq_false (by have := Hnx.out; omega)
              go_wp2_with fail
              go_roundw
              case rel => exact ⟨j + 1, by omega, by go_num, HB.out⟩
              case measure => simp [intOf]; omega
            case pos =>
              have dn : decide ((x : Int) < nx) = true := decide_eq_true (by have := Hnx.out; omega)
              have HMj := Lib.hid (HM.out.later HB.out)
              obtain ⟨v0, v1, v2, V⟩ := CJ.out _ HB.out
              obtain ⟨f0, f1⟩ := mr_e (x := x) HMj.out (by omega) Hge.out (HK.out.el2 j hjl) (by omega)
              have hx7 := idx43 ge (k + 2) ce x (by omega)
              have HS := Lib.hid (SJ.out x hx1)
              have HV := Lib.hid V
              clear V
              by_cases q1 : x = j + 1
              · have HT : Hid (sees jn jn Rj (x : Int) = true) := by show _ = _; rw [HS.out, decide_eq_true q1]; rfl
                have dx : ((x : Int) == (j : Int) + 1) = true := by rw [beq_iff_eq]; omega
                clear HS f1 q1
                go_wp2_with fail
                refine (Sees_any jn jn (some ⟨gj, 0, none⟩) mj cj Rj x _ HV.out hrl).mono ?_
                rintro e wk ⟨rfl, hb⟩
                rw [HT.out]
                have HBw := Lib.hid (stepB HBj.out hb)
                clear hb v0 v1 v2 f0 HV HT HMj hx7
                by_cases q2 : j = 0
                · have d2 : decide ((0 : Int) < (j : Int)) = false := decide_eq_false (by omega)
                  have d2' : decide (0 < j) = false := decide_eq_false (by omega)
                  have HJ0 := Lib.hid q2
                  clear q2
                  go_wp2_with fail
                  go_roundw
                  case rel => exact ⟨x + 1, by omega, by omega, by go_num, HBw.out⟩
                  case measure => simp [intOf]; omega
                have d2 : decide ((0 : Int) < (j : Int)) = true := decide_eq_true (by omega)
                have d2' : decide (0 < j) = true := decide_eq_true (by omega)
                by_cases q3 : x = j
                · have d3 : ((x : Int) != (j : Int)) = false := by rw [bne_eq_false_iff_eq]; omega
                  have HJ0 := Lib.hid q3
                  clear q3
                  go_wp2_with fail
                  go_roundw
                  case rel => exact ⟨x + 1, by omega, by omega, by go_num, HBw.out⟩
                  case measure => simp [intOf]; omega
                have d3 : ((x : Int) != (j : Int)) = true := by rw [bne_iff_ne]; omega
                obtain ⟨q, hq⟩ : ∃ q, j = q + 1 := ⟨j - 1, by omega⟩
                have hql : q < s.views.length := by omega
                have wq : IntKind.i64.wrap ((j : Int) - 1) = (q : Int) := (IntWalk.i64_in _ (by omega)).trans (by omega)
                have wq2 : (j : Int) - 1 = (q : Int) := by omega
                obtain ⟨qn, hqn⟩ : ∃ qn : Int, ((q + 1 : Nat) : Int) = qn := ⟨_, rfl⟩
                obtain ⟨gq, cq, mq, Rq, CQ, hrq, SQ, RQ⟩ := mr_vx HM.out HK.out hql (by omega) qn hqn
                obtain ⟨v0, v1, v2, V⟩ := CJ.out _ (stepB HBi.out HBw.out)
                obtain ⟨p0, p1, p2, P⟩ := CQ.out _ (stepB HBi.out HBw.out)
                have hxq := idx41 g5 s.views.length c5 q hql
                have hxq2 : ∀ W, (Instr.indexAt 41 (.slice (some ⟨g5, 0, none⟩) s.views.length c5) (.int .i64 ((j : Int) - 1))).run Try.prog W = .ok (.pointer (some ⟨g5, q * 3, none⟩)) W := fun W => by rw [wq2]; exact hxq W
                obtain ⟨bq, hbq⟩ : ∃ bq, sees qn qn Rq (x : Int) = bq := ⟨_, rfl⟩
                have HT2 : Hid (bq = true → sees jn jn Rj (x : Int) = true) := fun hb => by
                  have := ov_later HK.out (j := q) (by omega) hx1 (by omega) (by rw [hqn, ← RQ.out, hbq]; exact hb)
                  rw [show ((q + 1 + 1 : Nat) : Int) = jn from by have := Hjn.out; omega, ← hq, ← RJ.out] at this
                  exact this
                have Hbq := Lib.hid hbq
                have HP := Lib.hid P
                clear hbq P V hqn hq wq2 q3 wq
                go_wp2_with fail
                refine (Sees_any qn qn (some ⟨gq, 0, none⟩) mq cq Rq x _ HP.out hrq).mono ?_
                rintro e wl ⟨rfl, hb⟩
                rw [Hbq.out]
                have HBv := Lib.hid (stepB HBw.out hb)
                clear hb v0 v1 v2 p0 p1 p2 HP HBw
                cases bq with
                | false =>
                  go_wp2_with fail
                  go_roundw
                  case rel => exact ⟨x + 1, by omega, by omega, by go_num, HBv.out⟩
                  case measure => simp [intOf]; omega
                | true =>
                  obtain ⟨v0, v1, v2, V⟩ := CJ.out _ (stepB HBi.out HBv.out)
                  have HV := Lib.hid V
                  have HT3 := Lib.hid (HT2.out rfl)
                  clear V
                  go_wp2_with fail
                  refine (Sees_any jn jn (some ⟨gj, 0, none⟩) mj cj Rj x _ HV.out hrl).mono ?_
                  rintro e wm ⟨rfl, hb⟩
                  rw [HT3.out]
                  have HBu := Lib.hid (stepB HBv.out hb)
                  clear hb v0 v1 v2 HV HT3
                  go_wp2_with fail
                  go_roundw
                  case rel => exact ⟨x + 1, by omega, by omega, by go_num, HBu.out⟩
                  case measure => simp [intOf]; omega
              · have dx : ((x : Int) == (j : Int) + 1) = false := by rw [beq_eq_false_iff_ne]; omega
                obtain ⟨eb, heb⟩ : ∃ eb, (s.ended.getD j []).getD x false = eb := ⟨_, rfl⟩
                have HT : Hid (sees jn jn Rj (x : Int) = eb) := by show _ = _; rw [HS.out, decide_eq_false q1, heb]; rfl
                rw [heb] at f1
                have de : (eb != eb) = false := by simp
                clear HS heb
                have F0 := Lib.hid f0
                have F1 := Lib.hid f1
                go_wp2_with fail
                refine (Sees_any jn jn (some ⟨gj, 0, none⟩) mj cj Rj x _ HV.out hrl).mono ?_
                rintro e wk ⟨rfl, hb⟩
                rw [HT.out]
                have f2 := (hb.cell (p := ⟨g6, j, none⟩) (World.block_lt_of_cell? _ _ F0.out)).trans F0.out
                have f3 := (hb.cell (p := ⟨ge, x, none⟩) (World.block_lt_of_cell? _ _ F1.out)).trans F1.out
                have HBw := Lib.hid (stepB HBj.out hb)
                clear hb v0 v1 v2 f0 HV HT HMj hx7
                by_cases q2 : j = 0
                · have d2 : decide ((0 : Int) < (j : Int)) = false := decide_eq_false (by omega)
                  have d2' : decide (0 < j) = false := decide_eq_false (by omega)
                  have HJ0 := Lib.hid q2
                  clear q2
                  go_wp2_with fail
                  go_roundw
                  case rel => exact ⟨x + 1, by omega, by omega, by go_num, HBw.out⟩
                  case measure => simp [intOf]; omega
                have d2 : decide ((0 : Int) < (j : Int)) = true := decide_eq_true (by omega)
                have d2' : decide (0 < j) = true := decide_eq_true (by omega)
                by_cases q3 : x = j
                · have d3 : ((x : Int) != (j : Int)) = false := by rw [bne_eq_false_iff_eq]; omega
                  have HJ0 := Lib.hid q3
                  clear q3
                  go_wp2_with fail
                  go_roundw
                  case rel => exact ⟨x + 1, by omega, by omega, by go_num, HBw.out⟩
                  case measure => simp [intOf]; omega
                have d3 : ((x : Int) != (j : Int)) = true := by rw [bne_iff_ne]; omega
                obtain ⟨q, hq⟩ : ∃ q, j = q + 1 := ⟨j - 1, by omega⟩
                have hql : q < s.views.length := by omega
                have wq : IntKind.i64.wrap ((j : Int) - 1) = (q : Int) := (IntWalk.i64_in _ (by omega)).trans (by omega)
                have wq2 : (j : Int) - 1 = (q : Int) := by omega
                obtain ⟨qn, hqn⟩ : ∃ qn : Int, ((q + 1 : Nat) : Int) = qn := ⟨_, rfl⟩
                obtain ⟨gq, cq, mq, Rq, CQ, hrq, SQ, RQ⟩ := mr_vx HM.out HK.out hql (by omega) qn hqn
                obtain ⟨v0, v1, v2, V⟩ := CJ.out _ (stepB HBi.out HBw.out)
                obtain ⟨p0, p1, p2, P⟩ := CQ.out _ (stepB HBi.out HBw.out)
                have hxq := idx41 g5 s.views.length c5 q hql
                have hxq2 : ∀ W, (Instr.indexAt 41 (.slice (some ⟨g5, 0, none⟩) s.views.length c5) (.int .i64 ((j : Int) - 1))).run Try.prog W = .ok (.pointer (some ⟨g5, q * 3, none⟩)) W := fun W => by rw [wq2]; exact hxq W
                obtain ⟨bq, hbq⟩ : ∃ bq, sees qn qn Rq (x : Int) = bq := ⟨_, rfl⟩
                have HT2 : Hid (bq = true → sees jn jn Rj (x : Int) = true) := fun hb => by
                  have := ov_later HK.out (j := q) (by omega) hx1 (by omega) (by rw [hqn, ← RQ.out, hbq]; exact hb)
                  rw [show ((q + 1 + 1 : Nat) : Int) = jn from by have := Hjn.out; omega, ← hq, ← RJ.out] at this
                  exact this
                have Hbq := Lib.hid hbq
                have HP := Lib.hid P
                clear hbq P V hqn hq wq2 q3 wq
                go_wp2_with fail
                refine (Sees_any qn qn (some ⟨gq, 0, none⟩) mq cq Rq x _ HP.out hrq).mono ?_
                rintro e wl ⟨rfl, hb⟩
                rw [Hbq.out]
                have HBv := Lib.hid (stepB HBw.out hb)
                clear hb v0 v1 v2 p0 p1 p2 HP HBw
                cases bq with
                | false =>
                  go_wp2_with fail
                  go_roundw
                  case rel => exact ⟨x + 1, by omega, by omega, by go_num, HBv.out⟩
                  case measure => simp [intOf]; omega
                | true =>
                  obtain ⟨v0, v1, v2, V⟩ := CJ.out _ (stepB HBi.out HBv.out)
                  have HV := Lib.hid V
                  have HT3 := Lib.hid (HT2.out rfl)
                  clear V
                  go_wp2_with fail
                  refine (Sees_any jn jn (some ⟨gj, 0, none⟩) mj cj Rj x _ HV.out hrl).mono ?_
                  rintro e wm ⟨rfl, hb⟩
                  rw [HT3.out]
                  have HBu := Lib.hid (stepB HBv.out hb)
                  clear hb v0 v1 v2 HV HT3
                  go_wp2_with fail
                  go_roundw
                  case rel => exact ⟨x + 1, by omega, by omega, by go_num, HBu.out⟩
                  case measure => simp [intOf]; omega

theorem walk (A : Option Addr) (n c : Nat) (xs : List Int) (w : World) (hs : Bts w A n xs) (hm : n ≤ maxLen) (hr : ∀ x ∈ xs, 0 ≤ x ∧ x ≤ 255) :
    Calls Try.prog 6 #[.slice A n c] w fun e w' => e = .returned (.bool true) ∧ Below w.heap.size w w' := walk_in A n c xs w hs hm hr


set_option maxRecDepth 100000 in
theorem lifted (os : Os) (started : os.Started) (H : Type) (enc : TypeId × Value → H) :
    ReturnsInHanded {} Try.checked os 6 .any (Rows.viewOverSpec.pre6 enc Try.prog Try.f6 Rows.viewOverRow.domain false) (Rows.viewOverSpec.post enc Try.prog Try.f6 false true false false) := by
  refine returnsInHanded_of_change_sized (C := Try.checked) own started (by kernel_rfl) Try.func6
    (ChangeSpec.witness6 (enc := enc) (C := Try.checked) false ⟨#[], #[.slice none 0 0], []⟩ 8 (by kernel_rfl) (by kernel_rfl) (by kernel_rfl) (by kernel_rfl)) ?_
  intro W base args ds gs before hval0 hW _ hsz _
  have hval : ∀ (j : Nat) t v, Try.f6.params[j]? = some t → args[j]? = some v → Value.okWide Try.prog W .any base t v := hval0
  have hW' := hW
  obtain ⟨p, q, hA0, hV, hbef, _, _⟩ := hW
  have hA : DataW.TrodAll enc Try.prog W 0 (fun _ => true) true Try.f6.params.toList args.toList ds p := hA0
  rw [Try.params6] at hA hval
  obtain ⟨v0, vs0, d0, ds0, p0, q0, hargs, rfl, rfl, h0, r0⟩ := trodAll_cons hA
  obtain ⟨rfl, rfl, rfl⟩ := trodAll_nil r0
  obtain rfl : args = #[v0] := by cases args; simp_all
  obtain ⟨rfl, rfl⟩ := trodVars_none hV
  obtain ⟨A0, n0, c0, xs0, rfl, rd0, mx0, rg0⟩ := open_bts (hval 0 40 v0 rfl rfl) h0
  refine (walk A0 n0 c0 xs0 W rd0 mx0 rg0).mono fun e W' ⟨he, hb⟩ => ?_
  subst he
  exact ⟨_, rfl, law_post laidOut (of_decide_eq_true (by kernel_rfl)) rfl Try.underlying4 rfl rfl hW' hb⟩

theorem over : Rows.viewOverRow.holds Try.pinned (OpenSpec.ofChange Rows.viewOverSpec) :=
  OpenClaim.holds_of_wide 6 Try.f6 rfl rfl rfl rfl rfl rfl rfl ⟨rfl, rfl, rfl, rfl, rfl⟩ rfl rfl rfl rfl rfl (by kernel_rfl) Try.func6 (by kernel_rfl)
    (of_decide_eq_true (by kernel_rfl)) (by unfold Func.isWrapper; first | (rw [if_pos (by decide +kernel)]; kernel_rfl) | (rw [if_neg (by decide +kernel)]; exact ⟨rfl, rfl⟩))
    (fun os started H enc _ => lifted os started H enc)

end Go.Proofs.Ythicofdbcldpaaa.viewOver
namespace Go.Proofs.Ythicofdbcldpaaa
theorem viewOver_holds : Rows.ViewOverSaid := viewOver.over
end Go.Proofs.Ythicofdbcldpaaa
