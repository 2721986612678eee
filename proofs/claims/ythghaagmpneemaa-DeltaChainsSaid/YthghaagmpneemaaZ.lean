/- Package delta's Back. -/
import Derived.Test.YthghaagmpneemaaY
namespace Go.Proofs.Ythghaagmpneemaa
open Go.ChangeShapes Go.WideShapes Go.ChangeAt Go.RowKit Go.Shelf
set_option linter.unusedVariables false
attribute [local go_sem] Oper.semAt_some
/-- the last value that came, or the first one -/
def lastOf (v : ByteArray) (pre : List (ByteArray × Int)) : ByteArray := (pre.getLast?.map (·.1)).getD v
theorem lastOf_snoc (v : ByteArray) (pre : List (ByteArray × Int)) (x : ByteArray × Int) : lastOf v (pre ++ [x]) = x.1 := by simp [lastOf]
theorem lastOf_cons (v : ByteArray) (x : ByteArray × Int) (l : List (ByteArray × Int)) : lastOf v (x :: l) = lastOf x.1 l := by
  unfold lastOf
  cases l with
  | nil => rfl
  | cons y l => simp [List.getLast?_cons]
theorem backR_all : ∀ (ss : List ByteArray) (v : ByteArray), (∀ p ∈ seqD v ss, p.2 = 0) → backR v ss = (lastOf v (seqD v ss), 0)
  | [], v, _ => rfl
  | d :: l, v, h => by
    have h0 : (apR v d).2 = 0 := h _ (by unfold seqD; exact List.mem_cons_self)
    have e : seqD v (d :: l) = apR v d :: seqD (apR v d).1 l := by
      show (apR v d :: if (apR v d).2 = 0 then seqD (apR v d).1 l else []) = _
      rw [if_pos h0]
    rw [e] at h
    have ih := backR_all l (apR v d).1 (fun p hp => h p (List.mem_cons_of_mem _ hp))
    show (if (apR v d).2 = 0 then backR (apR v d).1 l else (⟨#[]⟩, (apR v d).2)) = _
    rw [if_pos h0, ih, e, lastOf_cons]
theorem backR_no : ∀ (ss : List ByteArray) (v : ByteArray) (ini : List (ByteArray × Int)) (x : ByteArray × Int), (ini ++ [x]) <+: seqD v ss → x.2 ≠ 0 → backR v ss = (⟨#[]⟩, x.2)
  | [], v, ini, x, h, _ => by
    have : (ini ++ [x]) <+: ([] : List (ByteArray × Int)) := h
    simp at this
  | d :: l, v, ini, x, h, hx => by
    have e : seqD v (d :: l) = apR v d :: if (apR v d).2 = 0 then seqD (apR v d).1 l else [] := rfl
    rw [e] at h
    show (if (apR v d).2 = 0 then backR (apR v d).1 l else (⟨#[]⟩, (apR v d).2)) = _
    cases ini with
    | nil =>
      have h2 : x = apR v d := by
        rw [List.nil_append, List.cons_prefix_cons] at h; exact h.1
      subst h2
      rw [if_neg hx]
    | cons y ini =>
      rw [List.cons_append, List.cons_prefix_cons] at h
      by_cases h0 : (apR v d).2 = 0
      · rw [if_pos h0] at h ⊢
        exact backR_no l _ ini x h.2 hx
      · rw [if_neg h0] at h
        have := h.2
        simp at this
set_option maxRecDepth 100000 in
set_option maxHeartbeats 2000000 in
theorem Back_any (v : ByteArray) (A : Option Addr) (len cap : Nat) (ss : List ByteArray) (w : World) (hz : ∀ s ∈ ss, s.size ≤ 1000000) (hlen : len ≤ 1000000) (hs : Strs w.heap.size w A len ss) :
    Calls Try.prog 11 #[.string v, .slice A len cap] w fun e w' => e = .returned (.tuple #[.string (backR v ss).1, .int .i64 (backR v ss).2]) ∧ Below w.heap.size w w' := by
  have Hz := Lib.hid hz
  have Hs := Lib.hid hs
  clear hz hs
  refine (callsIn_wide (n := 6)).1 ?_
  refine callsIn_of_wp_marks Try.func11 rfl trivial ?_ rfl
  simp only [Try.ntmps11, List.size_toArray, List.length_cons, List.length_nil, Nat.reduceAdd, Nat.reduceSub, Array.replicate_succ, Array.replicate_zero, List.push_toArray, List.append_toArray, List.nil_append, List.cons_append]
  gi_wp2
  refine ⟨trivial, ?_⟩
  refine (back_any _ _ _ _ _ _).mono ?_
  rintro e W1 ⟨rfl, hW1⟩
  have b0 : Boxed W1 w.heap.size 9 (.string ⟨#[]⟩) := by
    rw [hW1]; exact ((((Boxed.new w 9 (.string ⟨#[]⟩)).alloc _).alloc _).alloc _).alloc _
  have b1 : Boxed W1 (w.heap.size + 1) 24 (.int .i64 0) := by
    have := Boxed.new (w.alloc (.cells #[.string ⟨#[]⟩] 9)) 24 (.int .i64 0)
    rw [World.size_alloc] at this
    rw [hW1]; exact ((this.alloc _).alloc _).alloc _
  have b2 : Boxed W1 (w.heap.size + 1 + 1) 9 (.string v) := by
    have := Boxed.new ((w.alloc (.cells #[.string ⟨#[]⟩] 9)).alloc (.cells #[.int .i64 0] 24)) 9 (.string v)
    simp only [World.size_alloc] at this
    rw [hW1]; exact (this.alloc _).alloc _
  have b3 : Boxed W1 (w.heap.size + 1 + 1 + 1) 9 (.string v) := by
    have := Boxed.new (((w.alloc (.cells #[.string ⟨#[]⟩] 9)).alloc (.cells #[.int .i64 0] 24)).alloc (.cells #[.string v] 9)) 9 (.string v)
    simp only [World.size_alloc] at this
    rw [hW1]; exact this.alloc _
  have b4 : Boxed W1 (w.heap.size + 1 + 1 + 1 + 1) 27 (.slice A len cap) := by
    have := Boxed.new ((((w.alloc (.cells #[.string ⟨#[]⟩] 9)).alloc (.cells #[.int .i64 0] 24)).alloc (.cells #[.string v] 9)).alloc (.cells #[.string v] 9)) 27 (.slice A len cap)
    simp only [World.size_alloc] at this
    rw [hW1]; exact this
  have hB0 : Below w.heap.size w W1 := by
    rw [hW1]; exact (((((Below.refl _ w).alloc (Nat.le_refl _) _).alloc (by simp) _).alloc (by simp; omega) _).alloc (by simp; omega) _).alloc (by simp; omega) _
  have hsz1 : w.heap.size + 5 = W1.heap.size := by rw [hW1]; simp
  simp only [World.size_alloc]
  clear hW1
  have Hsz1 := Lib.hid hsz1
  clear hsz1
  gi_wp2
  refine wpIn_rangeFunc_ownG rfl (by omega) (gf := 25) (lb := #[.pointer (some ⟨w.heap.size + 1 + 1 + 1, 0, none⟩), .pointer (some ⟨w.heap.size + 1 + 1 + 1 + 1, 0, none⟩)]) rfl trivial (enters_of Try.func25 (by kernel_rfl) rfl)
    (back_stops _ (by omega) (w.heap.size + 1 + 1 + 1) (w.heap.size + 1 + 1 + 1 + 1) w.heap.size len cap A v ss Hz.out hlen W1 (by have := Hsz1.out; omega) (by have := Hsz1.out; omega) (by have := Hsz1.out; omega) b3.cell b4.cell (Hs.out.below hB0))
    belowK_t (belowK_b (by have := Hsz1.out; omega)) (Below.refl _ _) (fun _ => rfl)
    (fun pre W => ((∀ p ∈ pre, p.2 = 0) ∧ Boxed W w.heap.size 9 (.string ⟨#[]⟩) ∧ Boxed W (w.heap.size + 1) 24 (.int .i64 0) ∧ Boxed W (w.heap.size + 1 + 1) 9 (.string (lastOf v pre))) ∧ Below w.heap.size w W)
    (fun c pre W => (c = .ret ∧ ∃ ini x, pre = ini ++ [x] ∧ x.2 ≠ 0 ∧ Boxed W w.heap.size 9 (.string ⟨#[]⟩) ∧ Boxed W (w.heap.size + 1) 24 (.int .i64 x.2)) ∧ Below w.heap.size w W)
    (OwnFrom.and (OwnFrom.and (ownFrom_pure _ _) (OwnFrom.and ((boxed_own _ _ _).from _) (OwnFrom.and ((boxed_own _ _ _).from _) ((boxed_own _ _ _).from _)))) (ownFrom_below (Nat.le_refl _) (by have := Hsz1.out; omega)))
    (fun c => OwnFrom.and (fun s X Y row hs hg hr => by
      obtain ⟨hc, ini, x, e1, e2, e3, e4⟩ := hs
      exact ⟨hc, ini, x, e1, e2, (boxed_own _ _ (fun _ : Unit => _)).from _ () X Y row e3 hg hr, (boxed_own _ _ (fun _ : Unit => _)).from _ () X Y row e4 hg hr⟩) (ownFrom_below (Nat.le_refl _) (by have := Hsz1.out; omega)))
    ⟨⟨by simp, b0, b1, b2⟩, hB0⟩
    (fun x => { tmps := #[.string v, .slice A len cap, undef, undef, .pointer (some ⟨w.heap.size, 0, none⟩), .pointer (some ⟨w.heap.size + 1, 0, none⟩), .pointer (some ⟨w.heap.size + 1 + 1, 0, none⟩), .string x.1, .int .i64 x.2, .string v,
      .string v, .slice A len cap, .func (.func 25) #[] #[.pointer (some ⟨w.heap.size + 1 + 1 + 1, 0, none⟩), .pointer (some ⟨w.heap.size + 1 + 1 + 1 + 1, 0, none⟩)], .string x.1, .int .i64 x.2, undef, undef, undef, undef, undef], defers := [] }) ?assign ?body ?done ?stop
  case assign =>
    intro l x W K hK
    gi_wp2
    exact hK
  case body =>
    rintro l pre x W ⟨⟨hp, c0, c1, c2⟩, hB⟩ _
    have Hp := Lib.hid hp
    clear hp
    have k0 := c0.cell
    have f0 := c0.frozen
    have k1 := c1.cell
    have f1 := c1.frozen
    have k2 := c2.cell
    have f2 := c2.frozen
    by_cases he : x.2 = 0
    · have h1 : (x.2 != 0) = false := by rw [he]; rfl
      have Hall : Hid (∀ p ∈ pre ++ [x], p.2 = 0) := fun p hp => by
        rcases List.mem_append.1 hp with h | h
        · exact Hp.out p h
        · rw [List.mem_singleton.1 h]; exact he
      clear he
      gi_wp2
      exact ⟨(KeepsOthers.setCell _ _ _).from _, (Below.refl w.heap.size W).setCell (p := ⟨w.heap.size + 1 + 1, 0, none⟩) (by simp; omega) _, ⟨Hall.out, c0.other (by omega) _, c1.other (by omega) _, by rw [lastOf_snoc]; exact c2.set _⟩, hB.setCell (p := ⟨w.heap.size + 1 + 1, 0, none⟩) (by simp; omega) _⟩
    · have h1 : (x.2 != 0) = true := by rw [bne_iff_ne]; exact he
      have He := Lib.hid he
      clear he
      gi_wp2
      exact ⟨((KeepsOthers.setCell _ _ _).trans (KeepsOthers.setCell _ _ _)).from _, ⟨rfl, pre, x, rfl, He.out, (c0.set _).other (by omega) _, (c1.other (by omega) _).set _⟩, (hB.setCell (p := ⟨w.heap.size, 0, none⟩) (Nat.le_refl _) _).setCell (p := ⟨w.heap.size + 1, 0, none⟩) (by simp) _⟩
  case done =>
    rintro D ys W hD rfl ⟨⟨hall, c0, c1, c2⟩, hB⟩ hK
    have HR := Lib.hid (backR_all ss v hall)
    clear hall
    have k0 := c0.cell
    have f0 := c0.frozen
    have k1 := c1.cell
    have f1 := c1.frozen
    have k2 := c2.cell
    have f2 := c2.frozen
    gi_wp2
    generalize hLL : lastOf v (seqD v ss) = L at *
    have d0 : Boxed ((W.setCell ⟨w.heap.size, 0, none⟩ (.string L)).setCell ⟨w.heap.size + 1, 0, none⟩ (.int .i64 0)) w.heap.size 9 (.string L) := (c0.set _).other (by omega) _
    have d1 : Boxed ((W.setCell ⟨w.heap.size, 0, none⟩ (.string L)).setCell ⟨w.heap.size + 1, 0, none⟩ (.int .i64 0)) (w.heap.size + 1) 24 (.int .i64 0) := (c1.other (by omega) _).set _
    have hB2 := (hB.setCell (p := ⟨w.heap.size, 0, none⟩) (Nat.le_refl _) (.string L)).setCell (p := ⟨w.heap.size + 1, 0, none⟩) (by simp) (.int .i64 0)
    have hK2 := ((KeepsOthers.setCell W ⟨w.heap.size, 0, none⟩ (.string L)).trans (KeepsOthers.setCell _ ⟨w.heap.size + 1, 0, none⟩ (.int .i64 0))).same D _ hK rfl
    generalize (W.setCell ⟨w.heap.size, 0, none⟩ (.string L)).setCell ⟨w.heap.size + 1, 0, none⟩ (.int .i64 0) = W2 at *
    refine ⟨by simp, .inl ⟨_, _, rfl, run_takeDeferred hK2, ?_⟩⟩
    have e0 := cell_kept d0.cell (grownBy_putObj' _ D (.deferred none)) (fun r e => by cases e; exact ⟨_, hK2, rfl⟩)
    have e1 := cell_kept d1.cell (grownBy_putObj' _ D (.deferred none)) (fun r e => by cases e; exact ⟨_, hK2, rfl⟩)
    refine ⟨.tuple #[.string L, .int .i64 0], ?_, ⟨by rw [HR.out], hB2.trans (belowK_b (w := w) (Nat.le_refl _) W2 D _ _ (by have := Hsz1.out; omega) hK2 rfl rfl)⟩⟩
    simp [results, Try.f11, go_sem, e0, e1]
  case stop =>
    rintro D c pre W hD hpre ⟨⟨rfl, ini, x, e1, e2, c0, c1⟩, hB⟩ hK
    have HR := Lib.hid (backR_no ss v ini x (by rw [← e1]; exact hpre) e2)
    clear e1 e2
    gi_wp2
    refine ⟨by simp, .inl ⟨_, _, rfl, run_takeDeferred hK, ?_⟩⟩
    have e0 := cell_kept c0.cell (grownBy_putObj' _ D (.deferred none)) (fun r e => by cases e; exact ⟨_, hK, rfl⟩)
    have e1 := cell_kept c1.cell (grownBy_putObj' _ D (.deferred none)) (fun r e => by cases e; exact ⟨_, hK, rfl⟩)
    refine ⟨.tuple #[.string ⟨#[]⟩, .int .i64 x.2], ?_, ⟨by rw [HR.out], hB.trans (belowK_b (w := w) (Nat.le_refl _) W D _ _ (by have := Hsz1.out; omega) hK rfl rfl)⟩⟩
    simp [results, Try.f11, go_sem, e0, e1]
end Go.Proofs.Ythghaagmpneemaa
