/- Nodes: Split. -/
import Derived.Test.YtiojjpmkiljngaaI0
import Derived.BigRegion
namespace Go.Proofs.Ytiojjpmkiljngaa
open Go.ChangeShapes Go.WideShapes Go.ChangeAt Go.RowKit
set_option linter.unusedVariables false
set_option linter.unusedSimpArgs false

theorem blk_set4 {W : World} {g : Nat} {z0 z1 z2 z3 a b c d : Value} {t : TypeId} (h : Blk W g #[z0, z1, z2, z3] t) : Blk ((((W.setCell ⟨g, 0, none⟩ a).setCell ⟨g, 1, none⟩ b).setCell ⟨g, 2, none⟩ c).setCell ⟨g, 3, none⟩ d) g #[a, b, c, d] t := (((h.set a).set b).set c).set d
theorem blk_other4 {W : World} {g B : Nat} {a b c d : Value} {cs : Array Value} {t : TypeId} (h : Blk W B cs t) (hne : B ≠ g) : Blk ((((W.setCell ⟨g, 0, none⟩ a).setCell ⟨g, 1, none⟩ b).setCell ⟨g, 2, none⟩ c).setCell ⟨g, 3, none⟩ d) B cs t := (((h.other hne _).other hne _).other hne _).other hne _
def SplEnd (lf : Bool) (x1 : List ByteArray) (k1 r1 : List Int) (x2 : List ByteArray) (k2 r2 : List Int) (up : ByteArray) (code : Int) (w : World) (x : Ending) (w' : World) : Prop := ∃ v1 v2, x = .returned (.tuple #[v1, v2, .string up, .int .i64 code]) ∧ NdO w' w.heap.size v1 lf x1 k1 r1 ∧ NdO w' w.heap.size v2 lf x2 k2 r2 ∧ Below w.heap.size w w'
theorem spl_zero {w w' : World} {code : Int} (hb : Below w.heap.size w w') : SplEnd false [] [] [] [] [] [] e0 code w (.returned (.tuple #[.agg #[.bool false, .slice none 0 0, .slice none 0 0, .slice none 0 0], .agg #[.bool false, .slice none 0 0, .slice none 0 0, .slice none 0 0], .string ⟨#[]⟩, .int .i64 code])) w' := ⟨_, _, rfl, NdO.zero _ _, NdO.zero _ _, hb⟩
theorem blk_set3 {W : World} {g : Nat} {z0 z1 z2 z3 v : Value} {t : TypeId} (h : Blk W g #[z0, z1, z2, z3] t) : Blk (W.setCell ⟨g, 3, none⟩ v) g #[z0, z1, z2, v] t := h.set v
theorem blk_set2 {W : World} {g : Nat} {z0 z1 z2 z3 v : Value} {t : TypeId} (h : Blk W g #[z0, z1, z2, z3] t) : Blk (W.setCell ⟨g, 2, none⟩ v) g #[z0, z1, v, z3] t := h.set v
abbrev F4 (W : World) (g : Nat) : Prop := W.frozen? ⟨g, 0, none⟩ = false ∧ W.frozen? ⟨g, 1, none⟩ = false ∧ W.frozen? ⟨g, 2, none⟩ = false ∧ W.frozen? ⟨g, 3, none⟩ = false
theorem Blk.f4 {W : World} {g : Nat} {a b c d : Value} {t : TypeId} (h : Blk W g #[a, b, c, d] t) : F4 W g := ⟨h.frozen 0, h.frozen 1, h.frozen 2, h.frozen 3⟩
theorem F4.set {W : World} {g h j : Nat} (s : F4 W g) (v : Value) : F4 (W.setCell ⟨h, j, none⟩ v) g := ⟨by rw [World.frozen?_setCell]; exact s.1, by rw [World.frozen?_setCell]; exact s.2.1, by rw [World.frozen?_setCell]; exact s.2.2.1, by rw [World.frozen?_setCell]; exact s.2.2.2⟩
theorem F4.set4 {W : World} {g h : Nat} (s : F4 W g) (a b c d : Value) : F4 ((((W.setCell ⟨h, 0, none⟩ a).setCell ⟨h, 1, none⟩ b).setCell ⟨h, 2, none⟩ c).setCell ⟨h, 3, none⟩ d) g := (((s.set a).set b).set c).set d
theorem C4.set4 {W : World} {g h : Nat} {a b c d : Value} (s : C4 W g a b c d) (hne : g ≠ h) (a' b' c' d' : Value) : C4 ((((W.setCell ⟨h, 0, none⟩ a').setCell ⟨h, 1, none⟩ b').setCell ⟨h, 2, none⟩ c').setCell ⟨h, 3, none⟩ d') g a b c d := (((s.set hne _).set hne _).set hne _).set hne _
theorem cell_same {W : World} {g i j : Nat} {u v : Value} (h : W.cell? ⟨g, i, none⟩ = some u) (hv : i = j → v = u) : (W.setCell ⟨g, j, none⟩ v).cell? ⟨g, i, none⟩ = some u := by
  by_cases e : i = j
  · subst e; rw [hv rfl]; exact World.cell?_setCell_same W _ u h
  · exact (World.cell?_setCell_other W ⟨g, j, none⟩ ⟨g, i, none⟩ v (fun k => e (by cases k; rfl))).trans h
theorem C4.same4 {W : World} {g : Nat} {a b c d : Value} (s : C4 W g a b c d) : C4 ((((W.setCell ⟨g, 0, none⟩ a).setCell ⟨g, 1, none⟩ b).setCell ⟨g, 2, none⟩ c).setCell ⟨g, 3, none⟩ d) g a b c d :=
  ⟨cell_same (cell_same (cell_same (cell_same s.1 (fun _ => rfl)) (by omega)) (by omega)) (by omega), cell_same (cell_same (cell_same (cell_same s.2.1 (by omega)) (fun _ => rfl)) (by omega)) (by omega), cell_same (cell_same (cell_same (cell_same s.2.2.1 (by omega)) (by omega)) (fun _ => rfl)) (by omega), cell_same (cell_same (cell_same (cell_same s.2.2.2 (by omega)) (by omega)) (by omega)) (fun _ => rfl)⟩
abbrev SR (w : World) (b0 b1 b2 : Nat) (a b c d a1 a2 a3 a4 z1 z2 z3 z4 : Value) (g o : Nat) (u : Value) (W : World) : Prop := Aft w W ∧ C4 W b0 a b c d ∧ C4 W b1 a1 a2 a3 a4 ∧ F4 W b1 ∧ C4 W b2 z1 z2 z3 z4 ∧ F4 W b2 ∧ W.cell? ⟨g, o, none⟩ = some u
section
variable {w W : World} {b0 b1 b2 g o : Nat} {a b c d a1 a2 a3 a4 z1 z2 z3 z4 u : Value}
theorem SR.drew (s : SR w b0 b1 b2 a b c d a1 a2 a3 a4 z1 z2 z3 z4 g o u W) : SR w b0 b1 b2 a b c d a1 a2 a3 a4 z1 z2 z3 z4 g o u W.drew := ⟨Below.drew s.1, s.2⟩
theorem SR.drewN (s : SR w b0 b1 b2 a b c d a1 a2 a3 a4 z1 z2 z3 z4 g o u W) (n : Nat) : SR w b0 b1 b2 a b c d a1 a2 a3 a4 z1 z2 z3 z4 g o u (W.drewN n) := ⟨below_drewN s.1 n, s.2⟩
theorem SR.set1 (s : SR w b0 b1 b2 a b c d a1 a2 a3 a4 z1 z2 z3 z4 g o u W) (h1 : w.heap.size ≤ b1) (h01 : b0 ≠ b1) (h21 : b2 ≠ b1) (hg : g ≠ b1) : SR w b0 b1 b2 a b c d a1 a2 a3 a4 z1 z2 z3 z4 g o u ((((W.setCell ⟨b1, 0, none⟩ a1).setCell ⟨b1, 1, none⟩ a2).setCell ⟨b1, 2, none⟩ a3).setCell ⟨b1, 3, none⟩ a4) :=
  ⟨Go.Proofs.Ytiojjpmkiljngaa.set4 s.1 h1, s.2.1.set4 h01 _ _ _ _, s.2.2.1.same4, s.2.2.2.1.set4 _ _ _ _, s.2.2.2.2.1.set4 h21 _ _ _ _, s.2.2.2.2.2.1.set4 _ _ _ _, by rw [cell_set_ne _ hg, cell_set_ne _ hg, cell_set_ne _ hg, cell_set_ne _ hg]; exact s.2.2.2.2.2.2⟩
theorem SR.set2 (s : SR w b0 b1 b2 a b c d a1 a2 a3 a4 z1 z2 z3 z4 g o u W) (h1 : w.heap.size ≤ b2) (h01 : b0 ≠ b2) (h21 : b1 ≠ b2) (hg : g ≠ b2) : SR w b0 b1 b2 a b c d a1 a2 a3 a4 z1 z2 z3 z4 g o u ((((W.setCell ⟨b2, 0, none⟩ z1).setCell ⟨b2, 1, none⟩ z2).setCell ⟨b2, 2, none⟩ z3).setCell ⟨b2, 3, none⟩ z4) :=
  ⟨Go.Proofs.Ytiojjpmkiljngaa.set4 s.1 h1, s.2.1.set4 h01 _ _ _ _, s.2.2.1.set4 h21 _ _ _ _, s.2.2.2.1.set4 _ _ _ _, s.2.2.2.2.1.same4, s.2.2.2.2.2.1.set4 _ _ _ _, by rw [cell_set_ne _ hg, cell_set_ne _ hg, cell_set_ne _ hg, cell_set_ne _ hg]; exact s.2.2.2.2.2.2⟩
end
set_option maxRecDepth 100000 in
set_option maxHeartbeats 4000000 in
theorem split_form (lf : Bool) (A B C : Option Addr) (n c m d k e : Nat) (xs : List ByteArray) (ks rs : List Int) (w : World) (hN : Nd w A B C n c m d k e xs ks rs) (hM : mayB lf xs m k = false) : Calls Try.prog 15 #[.agg #[.bool lf, .slice A n c, .slice B m d, .slice C k e]] w (SplEnd false [] [] [] [] [] [] e0 4 w) := by
  have hb0 : Below w.heap.size w (((w.alloc (.cells #[.bool lf, .slice A n c, .slice B m d, .slice C k e] 28)).alloc (.cells #[.bool false, .slice none 0 0, .slice none 0 0, .slice none 0 0] 28)).alloc (.cells #[.bool false, .slice none 0 0, .slice none 0 0, .slice none 0 0] 28)) := (((Below.refl _ _).alloc (Nat.le_refl _) _).alloc (by simp) _).alloc (by simp; omega) _
  have H0 := Lib.hid (((Blk.new w #[.bool lf, .slice A n c, .slice B m d, .slice C k e] 28).alloc (.cells #[.bool false, .slice none 0 0, .slice none 0 0, .slice none 0 0] 28)).alloc (.cells #[.bool false, .slice none 0 0, .slice none 0 0, .slice none 0 0] 28))
  have H1 := Lib.hid ((Blk.new2 (w.alloc (.cells #[.bool lf, .slice A n c, .slice B m d, .slice C k e] 28)) #[.bool false, .slice none 0 0, .slice none 0 0, .slice none 0 0] 28 (B := w.heap.size + 1) (by simp)).alloc (.cells #[.bool false, .slice none 0 0, .slice none 0 0, .slice none 0 0] 28))
  have H2 := Lib.hid (Blk.new2 ((w.alloc (.cells #[.bool lf, .slice A n c, .slice B m d, .slice C k e] 28)).alloc (.cells #[.bool false, .slice none 0 0, .slice none 0 0, .slice none 0 0] 28)) #[.bool false, .slice none 0 0, .slice none 0 0, .slice none 0 0] 28 (B := w.heap.size + 1 + 1) (by simp))
  have HB0 := Lib.hid hb0
  have HN := Lib.hid hN
  clear hb0 hN
  have HM := Lib.hid hM
  clear hM
  go_enter Try.func15, Try.ntmps15
  go_wp2_with fail
  refine (May_any lf A B C n c m d k e xs _ (HN.out.later HB0.out).K.rd (by have := HN.out.sz; omega) (by have := HN.out.sz; omega) (by have := HN.out.sz; omega)).mono ?_
  rintro x w1 ⟨rfl, hb⟩
  have HB1 := Lib.hid (stepB HB0.out hb)
  have H01 := Lib.hid ((H0).out.later hb)
  have H11 := Lib.hid ((H1).out.later hb)
  have H21 := Lib.hid ((H2).out.later hb)
  have c1 := H01.out.c4
  have r1 := H11.out.c4
  have l1 := H11.out.l4.2.2.2.2
  have s1 := H21.out.c4
  have m1 := H21.out.l4.2.2.2.2
  clear hb HB0 H0 H1 H2
  have hlt1 := H11.out.lt
  have hlt2 := H21.out.lt
  obtain ⟨b0, e0'⟩ : ∃ b0, w.heap.size = b0 := ⟨_, rfl⟩
  obtain ⟨b1, e1'⟩ : ∃ b1, w.heap.size + 1 = b1 := ⟨_, rfl⟩
  obtain ⟨b2, e2'⟩ : ∃ b2, w.heap.size + 1 + 1 = b2 := ⟨_, rfl⟩
  have q1 : ¬ b0 = b1 := by omega
  have q2 : ¬ b0 = b2 := by omega
  have q3 : ¬ b1 = b2 := by omega
  have q4 : ¬ b1 = b0 := by omega
  have q5 : ¬ b2 = b0 := by omega
  have q6 : ¬ b2 = b1 := by omega
  have p1 : w.heap.size ≤ b1 := by omega
  have p2 : w.heap.size ≤ b2 := by omega
  have p3 : b1 < b2 + 1 := by omega
  rw [e2'] at H21 s1 m1 hlt2 ⊢
  rw [e1'] at H11 r1 l1 hlt1 ⊢
  rw [e0'] at H01 c1
  simp only [e0'] at ⊢
  have E0 := Lib.hid e0'
  have E1 := Lib.hid e1'
  have E2 := Lib.hid e2'
  have P1 := Lib.hid p1
  have P2 := Lib.hid p2
  have Q1 := Lib.hid hlt1
  have Q2 := Lib.hid hlt2
  clear e0' e1' e2' hlt1 hlt2
  rw [HM.out]
  go_wp2
  clear c1 r1 l1 s1 m1
  have F1 : Blk ((((((((((w1).setCell ⟨b1, 0, none⟩ (.bool false)).setCell ⟨b1, 1, none⟩ (.slice none 0 0)).setCell ⟨b1, 2, none⟩ (.slice none 0 0)).setCell ⟨b1, 3, none⟩ (.slice none 0 0))).setCell ⟨b2, 0, none⟩ (.bool false)).setCell ⟨b2, 1, none⟩ (.slice none 0 0)).setCell ⟨b2, 2, none⟩ (.slice none 0 0)).setCell ⟨b2, 3, none⟩ (.slice none 0 0)) b1 #[.bool false, .slice none 0 0, .slice none 0 0, .slice none 0 0] 28 := blk_other4 (blk_set4 H11.out) q3
  have F2 : Blk ((((((((((w1).setCell ⟨b1, 0, none⟩ (.bool false)).setCell ⟨b1, 1, none⟩ (.slice none 0 0)).setCell ⟨b1, 2, none⟩ (.slice none 0 0)).setCell ⟨b1, 3, none⟩ (.slice none 0 0))).setCell ⟨b2, 0, none⟩ (.bool false)).setCell ⟨b2, 1, none⟩ (.slice none 0 0)).setCell ⟨b2, 2, none⟩ (.slice none 0 0)).setCell ⟨b2, 3, none⟩ (.slice none 0 0)) b2 #[.bool false, .slice none 0 0, .slice none 0 0, .slice none 0 0] 28 := blk_set4 (blk_other4 H21.out q6)
  obtain ⟨f0, f1, f2, f3⟩ := F1.c4
  obtain ⟨g0, g1, g2, g3⟩ := F2.c4
  exact bodyPost_ret (v := .tuple #[.agg #[.bool false, .slice none 0 0, .slice none 0 0, .slice none 0 0], .agg #[.bool false, .slice none 0 0, .slice none 0 0, .slice none 0 0], .string ⟨#[]⟩, .int .i64 4]) (by simp [results, Try.results15, go_sem, f0, f1, f2, f3, g0, g1, g2, g3]) rfl (spl_zero (set4 (set4 HB1.out P1.out) P2.out))
set_option maxRecDepth 100000 in
set_option maxHeartbeats 4000000 in
theorem split_few (lf : Bool) (A B C : Option Addr) (n c m d k e : Nat) (xs : List ByteArray) (ks rs : List Int) (w : World) (hN : Nd w A B C n c m d k e xs ks rs) (hM : mayB lf xs m k = true) (h3 : n < 3) : Calls Try.prog 15 #[.agg #[.bool lf, .slice A n c, .slice B m d, .slice C k e]] w (SplEnd false [] [] [] [] [] [] e0 4 w) := by
  have hb0 : Below w.heap.size w (((w.alloc (.cells #[.bool lf, .slice A n c, .slice B m d, .slice C k e] 28)).alloc (.cells #[.bool false, .slice none 0 0, .slice none 0 0, .slice none 0 0] 28)).alloc (.cells #[.bool false, .slice none 0 0, .slice none 0 0, .slice none 0 0] 28)) := (((Below.refl _ _).alloc (Nat.le_refl _) _).alloc (by simp) _).alloc (by simp; omega) _
  have H0 := Lib.hid (((Blk.new w #[.bool lf, .slice A n c, .slice B m d, .slice C k e] 28).alloc (.cells #[.bool false, .slice none 0 0, .slice none 0 0, .slice none 0 0] 28)).alloc (.cells #[.bool false, .slice none 0 0, .slice none 0 0, .slice none 0 0] 28))
  have H1 := Lib.hid ((Blk.new2 (w.alloc (.cells #[.bool lf, .slice A n c, .slice B m d, .slice C k e] 28)) #[.bool false, .slice none 0 0, .slice none 0 0, .slice none 0 0] 28 (B := w.heap.size + 1) (by simp)).alloc (.cells #[.bool false, .slice none 0 0, .slice none 0 0, .slice none 0 0] 28))
  have H2 := Lib.hid (Blk.new2 ((w.alloc (.cells #[.bool lf, .slice A n c, .slice B m d, .slice C k e] 28)).alloc (.cells #[.bool false, .slice none 0 0, .slice none 0 0, .slice none 0 0] 28)) #[.bool false, .slice none 0 0, .slice none 0 0, .slice none 0 0] 28 (B := w.heap.size + 1 + 1) (by simp))
  have HB0 := Lib.hid hb0
  have HN := Lib.hid hN
  clear hb0 hN
  have HM := Lib.hid hM
  have d1 : decide ((n : Int) < 3) = true := decide_eq_true (by omega)
  clear hM h3
  go_enter Try.func15, Try.ntmps15
  go_wp2_with fail
  refine (May_any lf A B C n c m d k e xs _ (HN.out.later HB0.out).K.rd (by have := HN.out.sz; omega) (by have := HN.out.sz; omega) (by have := HN.out.sz; omega)).mono ?_
  rintro x w1 ⟨rfl, hb⟩
  have HB1 := Lib.hid (stepB HB0.out hb)
  have H01 := Lib.hid ((H0).out.later hb)
  have H11 := Lib.hid ((H1).out.later hb)
  have H21 := Lib.hid ((H2).out.later hb)
  have c1 := H01.out.c4
  have r1 := H11.out.c4
  have l1 := H11.out.l4.2.2.2.2
  have s1 := H21.out.c4
  have m1 := H21.out.l4.2.2.2.2
  clear hb HB0 H0 H1 H2
  have hlt1 := H11.out.lt
  have hlt2 := H21.out.lt
  obtain ⟨b0, e0'⟩ : ∃ b0, w.heap.size = b0 := ⟨_, rfl⟩
  obtain ⟨b1, e1'⟩ : ∃ b1, w.heap.size + 1 = b1 := ⟨_, rfl⟩
  obtain ⟨b2, e2'⟩ : ∃ b2, w.heap.size + 1 + 1 = b2 := ⟨_, rfl⟩
  have q1 : ¬ b0 = b1 := by omega
  have q2 : ¬ b0 = b2 := by omega
  have q3 : ¬ b1 = b2 := by omega
  have q4 : ¬ b1 = b0 := by omega
  have q5 : ¬ b2 = b0 := by omega
  have q6 : ¬ b2 = b1 := by omega
  have p1 : w.heap.size ≤ b1 := by omega
  have p2 : w.heap.size ≤ b2 := by omega
  have p3 : b1 < b2 + 1 := by omega
  rw [e2'] at H21 s1 m1 hlt2 ⊢
  rw [e1'] at H11 r1 l1 hlt1 ⊢
  rw [e0'] at H01 c1
  simp only [e0'] at ⊢
  have E0 := Lib.hid e0'
  have E1 := Lib.hid e1'
  have E2 := Lib.hid e2'
  have P1 := Lib.hid p1
  have P2 := Lib.hid p2
  have Q1 := Lib.hid hlt1
  have Q2 := Lib.hid hlt2
  clear e0' e1' e2' hlt1 hlt2
  rw [HM.out]
  go_wp2
  clear c1 r1 l1 s1 m1
  have F1 : Blk ((((((((((w1).setCell ⟨b1, 0, none⟩ (.bool false)).setCell ⟨b1, 1, none⟩ (.slice none 0 0)).setCell ⟨b1, 2, none⟩ (.slice none 0 0)).setCell ⟨b1, 3, none⟩ (.slice none 0 0))).setCell ⟨b2, 0, none⟩ (.bool false)).setCell ⟨b2, 1, none⟩ (.slice none 0 0)).setCell ⟨b2, 2, none⟩ (.slice none 0 0)).setCell ⟨b2, 3, none⟩ (.slice none 0 0)) b1 #[.bool false, .slice none 0 0, .slice none 0 0, .slice none 0 0] 28 := blk_other4 (blk_set4 H11.out) q3
  have F2 : Blk ((((((((((w1).setCell ⟨b1, 0, none⟩ (.bool false)).setCell ⟨b1, 1, none⟩ (.slice none 0 0)).setCell ⟨b1, 2, none⟩ (.slice none 0 0)).setCell ⟨b1, 3, none⟩ (.slice none 0 0))).setCell ⟨b2, 0, none⟩ (.bool false)).setCell ⟨b2, 1, none⟩ (.slice none 0 0)).setCell ⟨b2, 2, none⟩ (.slice none 0 0)).setCell ⟨b2, 3, none⟩ (.slice none 0 0)) b2 #[.bool false, .slice none 0 0, .slice none 0 0, .slice none 0 0] 28 := blk_set4 (blk_other4 H21.out q6)
  obtain ⟨f0, f1, f2, f3⟩ := F1.c4
  obtain ⟨g0, g1, g2, g3⟩ := F2.c4
  exact bodyPost_ret (v := .tuple #[.agg #[.bool false, .slice none 0 0, .slice none 0 0, .slice none 0 0], .agg #[.bool false, .slice none 0 0, .slice none 0 0, .slice none 0 0], .string ⟨#[]⟩, .int .i64 4]) (by simp [results, Try.results15, go_sem, f0, f1, f2, f3, g0, g1, g2, g3]) rfl (spl_zero (set4 (set4 HB1.out P1.out) P2.out))
set_option maxRecDepth 100000 in
set_option maxHeartbeats 4000000 in
theorem split_leaf (A B C : Option Addr) (n c m d k e : Nat) (xs : List ByteArray) (ks rs : List Int) (h : Nat) (up : ByteArray) (w : World) (hN : Nd w A B C n c m d k e xs ks rs) (hM : mayB true xs m k = true) (h3 : 3 ≤ n) (hh : (n + 1) / 2 = h) (hup : xs[h]? = some up) : Calls Try.prog 15 #[.agg #[.bool true, .slice A n c, .slice B m d, .slice C k e]] w (SplEnd true (xs.take h) [] (rs.take h) (xs.drop h) [] (rs.drop h) up 0 w) := by
  have hb0 : Below w.heap.size w (((w.alloc (.cells #[.bool true, .slice A n c, .slice B m d, .slice C k e] 28)).alloc (.cells #[.bool false, .slice none 0 0, .slice none 0 0, .slice none 0 0] 28)).alloc (.cells #[.bool false, .slice none 0 0, .slice none 0 0, .slice none 0 0] 28)) := (((Below.refl _ _).alloc (Nat.le_refl _) _).alloc (by simp) _).alloc (by simp; omega) _
  have H0 := Lib.hid (((Blk.new w #[.bool true, .slice A n c, .slice B m d, .slice C k e] 28).alloc (.cells #[.bool false, .slice none 0 0, .slice none 0 0, .slice none 0 0] 28)).alloc (.cells #[.bool false, .slice none 0 0, .slice none 0 0, .slice none 0 0] 28))
  have H1 := Lib.hid ((Blk.new2 (w.alloc (.cells #[.bool true, .slice A n c, .slice B m d, .slice C k e] 28)) #[.bool false, .slice none 0 0, .slice none 0 0, .slice none 0 0] 28 (B := w.heap.size + 1) (by simp)).alloc (.cells #[.bool false, .slice none 0 0, .slice none 0 0, .slice none 0 0] 28))
  have H2 := Lib.hid (Blk.new2 ((w.alloc (.cells #[.bool true, .slice A n c, .slice B m d, .slice C k e] 28)).alloc (.cells #[.bool false, .slice none 0 0, .slice none 0 0, .slice none 0 0] 28)) #[.bool false, .slice none 0 0, .slice none 0 0, .slice none 0 0] 28 (B := w.heap.size + 1 + 1) (by simp))
  have HB0 := Lib.hid hb0
  have HN := Lib.hid hN
  clear hb0 hN
  have hkn : k = n := by have h := may_true hM; rw [if_pos rfl] at h; have := HN.out.K.len; omega
  have d1 : decide ((n : Int) < 3) = false := decide_eq_false (by omega)
  have d2 : ((n : Int) + 1) / 2 = (h : Int) := by omega
  have d3 : IntKind.i64.wrap ((n : Int) + 1) = (n : Int) + 1 := IntWalk.i64_in _ (by have := HN.out.sz; omega)
  have d4 : ((n : Int) + 1).tdiv 2 = (h : Int) := by rw [Int.tdiv_eq_ediv_of_nonneg (by omega)]; exact d2
  have d5 : IntKind.i64.wrap ((h : Int) + 1) = ((h + 1 : Nat) : Int) := (IntWalk.i64_in _ (by have := HN.out.sz; omega)).trans (by omega)
  have hhn : h < n := by omega
  have d6 : wrap64 (h : Int) = (h : Int) := by have := HN.out.sz; unfold wrap64; omega
  obtain ⟨g, off, up', hA, hx, hcu⟩ := HN.out.K.rd.at hhn
  have hgl := lt_of_cell hcu
  have hup2 : up' = up := by rw [hx] at hup; exact Option.some.inj hup
  subst hup2 hA
  have i1 := sindex g off n c h (h : Int) rfl hhn
  obtain ⟨hr1, hs1⟩ := slice_hi (P := Try.prog) (t := 22) (e := 9) (some ⟨g, off, none⟩) n c h Try.underlying22 ssize (by omega) HN.out.K.le HN.out.K.nil
  obtain ⟨A2, hr2, hs2⟩ := slice_lo (P := Try.prog) (t := 22) (e := 9) (some ⟨g, off, none⟩) n c h Try.underlying22 ssize (by omega) HN.out.K.le HN.out.K.nil
  obtain ⟨hr3, hs3⟩ := slice_hi (P := Try.prog) (t := 25) (e := 24) C k e h Try.underlying25 hsize (by omega) HN.out.R.le HN.out.R.nil
  obtain ⟨A4, hr4, hs4⟩ := slice_lo (P := Try.prog) (t := 25) (e := 24) C k e h Try.underlying25 hsize (by omega) HN.out.R.le HN.out.R.nil
  have C1 : Hid (∀ W, Aft w W → Calls Try.prog 38 #[.slice (some ⟨g, off, none⟩) h c] W (MadeEnd sv 9 (xs.take h) W)) := fun W hW => sClone _ _ _ _ W (hs1 W xs (HN.out.K.later hW).rd) (by have := HN.out.sz; omega)
  have C2 : Hid (∀ W, Aft w W → Calls Try.prog 38 #[.slice A2 (n - h) (c - h)] W (MadeEnd sv 9 (xs.drop h) W)) := fun W hW => sClone _ _ _ _ W (hs2 W xs (HN.out.K.later hW).rd) (by have := HN.out.sz; omega)
  have C3 : Hid (∀ W, Aft w W → Calls Try.prog 39 #[.slice C h e] W (MadeEnd hv 24 (rs.take h) W)) := fun W hW => hClone _ _ _ _ W (hs3 W rs (HN.out.R.later hW).rd) (by have := HN.out.sz; omega)
  have C4' : Hid (∀ W, Aft w W → Calls Try.prog 39 #[.slice A4 (k - h) (e - h)] W (MadeEnd hv 24 (rs.drop h) W)) := fun W hW => hClone _ _ _ _ W (hs4 W rs (HN.out.R.later hW).rd) (by have := HN.out.sz; omega)
  have HM := Lib.hid hM
  have HUP := Lib.hid hcu
  generalize hX1 : xs.take h = X1 at *
  generalize hX2 : xs.drop h = X2 at *
  generalize hR1 : rs.take h = R1 at *
  generalize hR2 : rs.drop h = R2 at *
  clear hM h3 hh hup hs1 hs2 hs3 hs4 hx hX1 hX2 hR1 hR2 hkn hcu
  go_enter Try.func15, Try.ntmps15
  go_wp2_with fail
  refine (May_any true (some ⟨g, off, none⟩) B C n c m d k e xs _ (HN.out.later HB0.out).K.rd (by have := HN.out.sz; omega) (by have := HN.out.sz; omega) (by have := HN.out.sz; omega)).mono ?_
  rintro x w1 ⟨rfl, hb⟩
  have HB1 := Lib.hid (stepB HB0.out hb)
  have H01 := Lib.hid ((H0).out.later hb)
  have H11 := Lib.hid ((H1).out.later hb)
  have H21 := Lib.hid ((H2).out.later hb)
  have c1 := H01.out.c4
  have r1 := H11.out.c4
  have l1 := H11.out.l4.2.2.2.2
  have s1 := H21.out.c4
  have m1 := H21.out.l4.2.2.2.2
  clear hb HB0 H0 H1 H2
  have hlt1 := H11.out.lt
  have hlt2 := H21.out.lt
  obtain ⟨b0, e0'⟩ : ∃ b0, w.heap.size = b0 := ⟨_, rfl⟩
  obtain ⟨b1, e1'⟩ : ∃ b1, w.heap.size + 1 = b1 := ⟨_, rfl⟩
  obtain ⟨b2, e2'⟩ : ∃ b2, w.heap.size + 1 + 1 = b2 := ⟨_, rfl⟩
  have q1 : ¬ b0 = b1 := by omega
  have q2 : ¬ b0 = b2 := by omega
  have q3 : ¬ b1 = b2 := by omega
  have q4 : ¬ b1 = b0 := by omega
  have q5 : ¬ b2 = b0 := by omega
  have q6 : ¬ b2 = b1 := by omega
  have p1 : w.heap.size ≤ b1 := by omega
  have p2 : w.heap.size ≤ b2 := by omega
  have p3 : b1 < b2 + 1 := by omega
  rw [e2'] at H21 s1 m1 hlt2 ⊢
  rw [e1'] at H11 r1 l1 hlt1 ⊢
  rw [e0'] at H01 c1
  simp only [e0'] at ⊢
  have E0 := Lib.hid e0'
  have E1 := Lib.hid e1'
  have E2 := Lib.hid e2'
  have P1 := Lib.hid p1
  have P2 := Lib.hid p2
  have Q1 := Lib.hid hlt1
  have Q2 := Lib.hid hlt2
  clear e0' e1' e2' hlt1 hlt2
  rw [HM.out]
  have K0 : Hid (SB w b0 b1 (.bool true) (.slice (some ⟨g, off, none⟩) n c) (.slice B m d) (.slice C k e) w1) := ⟨HB1.out, H01.out.c4, H11.out.l4⟩
  go_wp2_with fail
  go_region_held3 (SB w b0 b1 (.bool true) (.slice (some ⟨g, off, none⟩) n c) (.slice B m d) (.slice C k e)) (repeat (first | with_reducible assumption | with_reducible exact K0.out | with_reducible exact SB.drewN2 (by with_reducible assumption) | with_reducible refine SB.drew ?_ | with_reducible refine SB.drewN ?_ | with_reducible refine SB.alloc ?_ _ | with_reducible refine SB.later ?_ (by with_reducible assumption) | refine SB.set4 ?_ (by omega) (by omega))) (first
    | (go_at_call 38; refine (C1.out _ (Aft.below HB1.out (show Aft w1 _ by (repeat (first | with_reducible assumption | with_reducible exact Aft.refl _ | with_reducible exact Aft.drewN2 (by with_reducible assumption) _ | with_reducible refine Aft.drew ?_ | with_reducible refine Aft.drewN ?_ _ | with_reducible refine Aft.alloc ?_ _ | with_reducible refine Aft.below ?_ (by with_reducible assumption)))))).mono ?_; rintro x wK ⟨vK, rfl, hoK, hbK⟩; have hoK := Ow.base hoK (Aft.size (w := w1) (by (repeat (first | with_reducible assumption | with_reducible exact Aft.refl _ | with_reducible exact Aft.drewN2 (by with_reducible assumption) _ | with_reducible refine Aft.drew ?_ | with_reducible refine Aft.drewN ?_ _ | with_reducible refine Aft.alloc ?_ _ | with_reducible refine Aft.below ?_ (by with_reducible assumption))))); obtain ⟨AK, cK, rfl, hsK⟩ := Ow.sl hoK; clear hsK))
  have HB4 : Hid (Below w.heap.size w (((((wK).setCell ⟨b1, 0, none⟩ (.bool true)).setCell ⟨b1, 1, none⟩ (.slice AK X1.length cK)).setCell ⟨b1, 2, none⟩ (.slice none 0 0)).setCell ⟨b1, 3, none⟩ (.slice none 0 0))) := set4 (stepB HB1.out (show Aft w1 wK by (repeat (first | with_reducible assumption | with_reducible exact Aft.refl _ | with_reducible exact Aft.drewN2 (by with_reducible assumption) _ | with_reducible refine Aft.drew ?_ | with_reducible refine Aft.drewN ?_ _ | with_reducible refine Aft.alloc ?_ _ | with_reducible refine Aft.below ?_ (by with_reducible assumption))))) P1.out
  have H04 : Hid (Blk (((((wK).setCell ⟨b1, 0, none⟩ (.bool true)).setCell ⟨b1, 1, none⟩ (.slice AK X1.length cK)).setCell ⟨b1, 2, none⟩ (.slice none 0 0)).setCell ⟨b1, 3, none⟩ (.slice none 0 0)) b0 #[.bool true, .slice (some ⟨g, off, none⟩) n c, .slice B m d, .slice C k e] 28) := blk_other4 (H01.out.later (show Aft w1 wK by (repeat (first | with_reducible assumption | with_reducible exact Aft.refl _ | with_reducible exact Aft.drewN2 (by with_reducible assumption) _ | with_reducible refine Aft.drew ?_ | with_reducible refine Aft.drewN ?_ _ | with_reducible refine Aft.alloc ?_ _ | with_reducible refine Aft.below ?_ (by with_reducible assumption))))) q1
  have H14 : Hid (Blk (((((wK).setCell ⟨b1, 0, none⟩ (.bool true)).setCell ⟨b1, 1, none⟩ (.slice AK X1.length cK)).setCell ⟨b1, 2, none⟩ (.slice none 0 0)).setCell ⟨b1, 3, none⟩ (.slice none 0 0)) b1 #[.bool true, .slice AK X1.length cK, .slice none 0 0, .slice none 0 0] 28) := blk_set4 (H11.out.later (show Aft w1 wK by (repeat (first | with_reducible assumption | with_reducible exact Aft.refl _ | with_reducible exact Aft.drewN2 (by with_reducible assumption) _ | with_reducible refine Aft.drew ?_ | with_reducible refine Aft.drewN ?_ _ | with_reducible refine Aft.alloc ?_ _ | with_reducible refine Aft.below ?_ (by with_reducible assumption)))))
  have H24 : Hid (Blk (((((wK).setCell ⟨b1, 0, none⟩ (.bool true)).setCell ⟨b1, 1, none⟩ (.slice AK X1.length cK)).setCell ⟨b1, 2, none⟩ (.slice none 0 0)).setCell ⟨b1, 3, none⟩ (.slice none 0 0)) b2 #[.bool false, .slice none 0 0, .slice none 0 0, .slice none 0 0] 28) := blk_other4 (H21.out.later (show Aft w1 wK by (repeat (first | with_reducible assumption | with_reducible exact Aft.refl _ | with_reducible exact Aft.drewN2 (by with_reducible assumption) _ | with_reducible refine Aft.drew ?_ | with_reducible refine Aft.drewN ?_ _ | with_reducible refine Aft.alloc ?_ _ | with_reducible refine Aft.below ?_ (by with_reducible assumption))))) q6
  have O4 : Hid (Ow sv (((((wK).setCell ⟨b1, 0, none⟩ (.bool true)).setCell ⟨b1, 1, none⟩ (.slice AK X1.length cK)).setCell ⟨b1, 2, none⟩ (.slice none 0 0)).setCell ⟨b1, 3, none⟩ (.slice none 0 0)) (b2 + 1) 9 (.slice AK X1.length cK) X1.length X1) := ow_low4 (Ow.base hoK Q2.out) p3
  clear c1 r1 l1 s1 m1 H01 H11 H21 K0 hbK hoK
  generalize (((((wK).setCell ⟨b1, 0, none⟩ (.bool true)).setCell ⟨b1, 1, none⟩ (.slice AK X1.length cK)).setCell ⟨b1, 2, none⟩ (.slice none 0 0)).setCell ⟨b1, 3, none⟩ (.slice none 0 0)) = w4 at *
  have c4 := H04.out.c4
  have r4 := H14.out.c4
  have l4 := H14.out.f4
  go_wp2_with fail
  refine (C3.out _ HB4.out).mono ?_
  rintro x w5 ⟨v5, rfl, ho5, hb5⟩
  obtain ⟨A5, c5, rfl, hs5⟩ := Ow.sl ho5
  have HB5 := Lib.hid (stepB HB4.out hb5)
  have H05 := Lib.hid (H04.out.later hb5)
  have H15 := Lib.hid (H14.out.later hb5)
  have H25 := Lib.hid (H24.out.later hb5)
  have O5 := Lib.hid (O4.out.later hb5)
  have hsz4 : b2 < w4.heap.size := H24.out.lt
  have N5 := Lib.hid (Ow.base (B' := b2 + 1) ho5 hsz4)
  clear c4 r4 l4 hs5 ho5 hb5 HB4 H04 H14 H24 O4 hsz4
  have r5 := H15.out.c4
  have l5 := H15.out.f4
  have c5' := H05.out.c4
  go_wp2_with fail
  have HB6 : Hid (Below w.heap.size w (w5.setCell ⟨b1, 3, none⟩ (.slice A5 R1.length c5))) := HB5.out.setCell P1.out _
  have H06 : Hid (Blk (w5.setCell ⟨b1, 3, none⟩ (.slice A5 R1.length c5)) b0 #[.bool true, .slice (some ⟨g, off, none⟩) n c, .slice B m d, .slice C k e] 28) := H05.out.other q1 _
  have H16 : Hid (Blk (w5.setCell ⟨b1, 3, none⟩ (.slice A5 R1.length c5)) b1 #[.bool true, .slice AK X1.length cK, .slice none 0 0, .slice A5 R1.length c5] 28) := blk_set3 H15.out
  have H26 : Hid (Blk (w5.setCell ⟨b1, 3, none⟩ (.slice A5 R1.length c5)) b2 #[.bool false, .slice none 0 0, .slice none 0 0, .slice none 0 0] 28) := H25.out.other q6 _
  have O6 : Hid (Ow sv (w5.setCell ⟨b1, 3, none⟩ (.slice A5 R1.length c5)) (b2 + 1) 9 (.slice AK X1.length cK) X1.length X1) := ow_low O5.out p3
  have N6 : Hid (Ow hv (w5.setCell ⟨b1, 3, none⟩ (.slice A5 R1.length c5)) (b2 + 1) 24 (.slice A5 R1.length c5) R1.length R1) := ow_low N5.out p3
  clear r5 l5 c5' HB5 H05 H15 H25 O5 N5
  generalize (w5.setCell ⟨b1, 3, none⟩ (.slice A5 R1.length c5)) = w6 at *
  have K7 : Hid (SB w b0 b2 (.bool true) (.slice (some ⟨g, off, none⟩) n c) (.slice B m d) (.slice C k e) w6) := ⟨HB6.out, H06.out.c4, H26.out.l4⟩
  go_region_held3 (SB w b0 b2 (.bool true) (.slice (some ⟨g, off, none⟩) n c) (.slice B m d) (.slice C k e)) (repeat (first | with_reducible assumption | with_reducible exact K7.out | with_reducible exact SB.drewN2 (by with_reducible assumption) | with_reducible refine SB.drew ?_ | with_reducible refine SB.drewN ?_ | with_reducible refine SB.alloc ?_ _ | with_reducible refine SB.later ?_ (by with_reducible assumption) | refine SB.set4 ?_ (by omega) (by omega))) (first
    | (go_at_call 38; refine (C2.out _ (Aft.below HB6.out (show Aft w6 _ by (repeat (first | with_reducible assumption | with_reducible exact Aft.refl _ | with_reducible exact Aft.drewN2 (by with_reducible assumption) _ | with_reducible refine Aft.drew ?_ | with_reducible refine Aft.drewN ?_ _ | with_reducible refine Aft.alloc ?_ _ | with_reducible refine Aft.below ?_ (by with_reducible assumption)))))).mono ?_; rintro x wP ⟨vP, rfl, hoP, hbP⟩; have hoP := Ow.base hoP (Aft.size (w := w6) (by (repeat (first | with_reducible assumption | with_reducible exact Aft.refl _ | with_reducible exact Aft.drewN2 (by with_reducible assumption) _ | with_reducible refine Aft.drew ?_ | with_reducible refine Aft.drewN ?_ _ | with_reducible refine Aft.alloc ?_ _ | with_reducible refine Aft.below ?_ (by with_reducible assumption))))); obtain ⟨AP, cP, rfl, hsP⟩ := Ow.sl hoP; clear hsP)
    | (go_at_call 39; refine (C4'.out _ (Aft.below HB6.out (show Aft w6 _ by (repeat (first | with_reducible assumption | with_reducible exact Aft.refl _ | with_reducible exact Aft.drewN2 (by with_reducible assumption) _ | with_reducible refine Aft.drew ?_ | with_reducible refine Aft.drewN ?_ _ | with_reducible refine Aft.alloc ?_ _ | with_reducible refine Aft.below ?_ (by with_reducible assumption)))))).mono ?_; rintro x wQ ⟨vQ, rfl, hoQ, hbQ⟩; have hoQ := Ow.base hoQ (Aft.size (w := w6) (by (repeat (first | with_reducible assumption | with_reducible exact Aft.refl _ | with_reducible exact Aft.drewN2 (by with_reducible assumption) _ | with_reducible refine Aft.drew ?_ | with_reducible refine Aft.drewN ?_ _ | with_reducible refine Aft.alloc ?_ _ | with_reducible refine Aft.below ?_ (by with_reducible assumption))))); obtain ⟨AQ, cQ, rfl, hsQ⟩ := Ow.sl hoQ; clear hsQ))
  · rename_i hq0
    clear hq0
    have HB8 : Hid (Below w.heap.size w (((((wQ).setCell ⟨b2, 0, none⟩ (.bool true)).setCell ⟨b2, 1, none⟩ (.slice AP X2.length cP)).setCell ⟨b2, 2, none⟩ (.slice none 0 0)).setCell ⟨b2, 3, none⟩ (.slice AQ R2.length cQ))) := set4 (stepB HB6.out (show Aft w6 wQ by (repeat (first | with_reducible assumption | with_reducible exact Aft.refl _ | with_reducible exact Aft.drewN2 (by with_reducible assumption) _ | with_reducible refine Aft.drew ?_ | with_reducible refine Aft.drewN ?_ _ | with_reducible refine Aft.alloc ?_ _ | with_reducible refine Aft.below ?_ (by with_reducible assumption))))) P2.out
    have H08 : Hid (Blk (((((wQ).setCell ⟨b2, 0, none⟩ (.bool true)).setCell ⟨b2, 1, none⟩ (.slice AP X2.length cP)).setCell ⟨b2, 2, none⟩ (.slice none 0 0)).setCell ⟨b2, 3, none⟩ (.slice AQ R2.length cQ)) b0 #[.bool true, .slice (some ⟨g, off, none⟩) n c, .slice B m d, .slice C k e] 28) := blk_other4 (H06.out.later (show Aft w6 wQ by (repeat (first | with_reducible assumption | with_reducible exact Aft.refl _ | with_reducible exact Aft.drewN2 (by with_reducible assumption) _ | with_reducible refine Aft.drew ?_ | with_reducible refine Aft.drewN ?_ _ | with_reducible refine Aft.alloc ?_ _ | with_reducible refine Aft.below ?_ (by with_reducible assumption))))) q2
    have H18 : Hid (Blk (((((wQ).setCell ⟨b2, 0, none⟩ (.bool true)).setCell ⟨b2, 1, none⟩ (.slice AP X2.length cP)).setCell ⟨b2, 2, none⟩ (.slice none 0 0)).setCell ⟨b2, 3, none⟩ (.slice AQ R2.length cQ)) b1 #[.bool true, .slice AK X1.length cK, .slice none 0 0, .slice A5 R1.length c5] 28) := blk_other4 (H16.out.later (show Aft w6 wQ by (repeat (first | with_reducible assumption | with_reducible exact Aft.refl _ | with_reducible exact Aft.drewN2 (by with_reducible assumption) _ | with_reducible refine Aft.drew ?_ | with_reducible refine Aft.drewN ?_ _ | with_reducible refine Aft.alloc ?_ _ | with_reducible refine Aft.below ?_ (by with_reducible assumption))))) q3
    have H28 : Hid (Blk (((((wQ).setCell ⟨b2, 0, none⟩ (.bool true)).setCell ⟨b2, 1, none⟩ (.slice AP X2.length cP)).setCell ⟨b2, 2, none⟩ (.slice none 0 0)).setCell ⟨b2, 3, none⟩ (.slice AQ R2.length cQ)) b2 #[.bool true, .slice AP X2.length cP, .slice none 0 0, .slice AQ R2.length cQ] 28) := blk_set4 (H26.out.later (show Aft w6 wQ by (repeat (first | with_reducible assumption | with_reducible exact Aft.refl _ | with_reducible exact Aft.drewN2 (by with_reducible assumption) _ | with_reducible refine Aft.drew ?_ | with_reducible refine Aft.drewN ?_ _ | with_reducible refine Aft.alloc ?_ _ | with_reducible refine Aft.below ?_ (by with_reducible assumption)))))
    have hsz6 : b2 < w6.heap.size := H26.out.lt
    have O8 : Hid (Ow sv (((((wQ).setCell ⟨b2, 0, none⟩ (.bool true)).setCell ⟨b2, 1, none⟩ (.slice AP X2.length cP)).setCell ⟨b2, 2, none⟩ (.slice none 0 0)).setCell ⟨b2, 3, none⟩ (.slice AQ R2.length cQ)) (b2 + 1) 9 (.slice AK X1.length cK) X1.length X1) := ow_low4 (O6.out.later (show Aft w6 wQ by (repeat (first | with_reducible assumption | with_reducible exact Aft.refl _ | with_reducible exact Aft.drewN2 (by with_reducible assumption) _ | with_reducible refine Aft.drew ?_ | with_reducible refine Aft.drewN ?_ _ | with_reducible refine Aft.alloc ?_ _ | with_reducible refine Aft.below ?_ (by with_reducible assumption))))) (by omega)
    have N8 : Hid (Ow hv (((((wQ).setCell ⟨b2, 0, none⟩ (.bool true)).setCell ⟨b2, 1, none⟩ (.slice AP X2.length cP)).setCell ⟨b2, 2, none⟩ (.slice none 0 0)).setCell ⟨b2, 3, none⟩ (.slice AQ R2.length cQ)) (b2 + 1) 24 (.slice A5 R1.length c5) R1.length R1) := ow_low4 (N6.out.later (show Aft w6 wQ by (repeat (first | with_reducible assumption | with_reducible exact Aft.refl _ | with_reducible exact Aft.drewN2 (by with_reducible assumption) _ | with_reducible refine Aft.drew ?_ | with_reducible refine Aft.drewN ?_ _ | with_reducible refine Aft.alloc ?_ _ | with_reducible refine Aft.below ?_ (by with_reducible assumption))))) (by omega)
    have P8 : Hid (Ow sv (((((wQ).setCell ⟨b2, 0, none⟩ (.bool true)).setCell ⟨b2, 1, none⟩ (.slice AP X2.length cP)).setCell ⟨b2, 2, none⟩ (.slice none 0 0)).setCell ⟨b2, 3, none⟩ (.slice AQ R2.length cQ)) (b2 + 1) 9 (.slice AP X2.length cP) X2.length X2) := ow_low4 ((Ow.base hoP hsz6).later (show Aft wP wQ by (repeat (first | with_reducible assumption | with_reducible exact Aft.refl _ | with_reducible exact Aft.drewN2 (by with_reducible assumption) _ | with_reducible refine Aft.drew ?_ | with_reducible refine Aft.drewN ?_ _ | with_reducible refine Aft.alloc ?_ _ | with_reducible refine Aft.below ?_ (by with_reducible assumption))))) (by omega)
    have Q8 : Hid (Ow hv (((((wQ).setCell ⟨b2, 0, none⟩ (.bool true)).setCell ⟨b2, 1, none⟩ (.slice AP X2.length cP)).setCell ⟨b2, 2, none⟩ (.slice none 0 0)).setCell ⟨b2, 3, none⟩ (.slice AQ R2.length cQ)) (b2 + 1) 24 (.slice AQ R2.length cQ) R2.length R2) := ow_low4 ((Ow.base hoQ hsz6).later (show Aft wQ wQ by (repeat (first | with_reducible assumption | with_reducible exact Aft.refl _ | with_reducible exact Aft.drewN2 (by with_reducible assumption) _ | with_reducible refine Aft.drew ?_ | with_reducible refine Aft.drewN ?_ _ | with_reducible refine Aft.alloc ?_ _ | with_reducible refine Aft.below ?_ (by with_reducible assumption))))) (by omega)
    clear hsz6 hoP hoQ hbP hbQ HB6 H06 H16 H26 O6 N6 K7
    generalize (((((wQ).setCell ⟨b2, 0, none⟩ (.bool true)).setCell ⟨b2, 1, none⟩ (.slice AP X2.length cP)).setCell ⟨b2, 2, none⟩ (.slice none 0 0)).setCell ⟨b2, 3, none⟩ (.slice AQ R2.length cQ)) = w8 at *
    have K10 : Hid ((SR w b0 b1 b2 (.bool true) (.slice (some ⟨g, off, none⟩) n c) (.slice B m d) (.slice C k e) (.bool true) (.slice AK X1.length cK) (.slice none 0 0) (.slice A5 R1.length c5) (.bool true) (.slice AP X2.length cP) (.slice none 0 0) (.slice AQ R2.length cQ) g (off + h) (.string up')) w8) := ⟨HB8.out, H08.out.c4, H18.out.c4, H18.out.f4, H28.out.c4, H28.out.f4, (HB8.out.cell (p := ⟨g, off + h, none⟩) hgl).trans HUP.out⟩
    have z1 : g ≠ b1 := by omega
    have z2 : g ≠ b2 := by omega
    go_wp2_with fail
    have KK := K10.out
    go_region
    clear KK
    obtain ⟨hA, _, ⟨f0, f1, f2, f3⟩, _, ⟨g0, g1, g2, g3⟩, _, _⟩ := SR.drew (SR.set2 (SR.set1 K10.out p1 q1 q6 z1) p2 q2 q3 z2)
    have HA := Lib.hid hA
    clear hA K10 d1 d2 d3 d4 d5 d6
    go_wp2
    exact bodyPost_ret (v := .tuple #[.agg #[.bool true, .slice AK X1.length cK, .slice none 0 0, .slice A5 R1.length c5], .agg #[.bool true, .slice AP X2.length cP, .slice none 0 0, .slice AQ R2.length cQ], .string up', .int .i64 0]) (by simp [results, Try.results15, go_sem, f0, f1, f2, f3, g0, g1, g2, g3]) rfl ⟨_, _, rfl, ⟨_, _, _, rfl, ((ow_low4 (ow_low4 O8.out (by omega)) (by omega)).later ((Below.refl _ _).drew)).base (by omega), Ow.none _ _ _, ((ow_low4 (ow_low4 N8.out (by omega)) (by omega)).later ((Below.refl _ _).drew)).base (by omega)⟩, ⟨_, _, _, rfl, ((ow_low4 (ow_low4 P8.out (by omega)) (by omega)).later ((Below.refl _ _).drew)).base (by omega), Ow.none _ _ _, ((ow_low4 (ow_low4 Q8.out (by omega)) (by omega)).later ((Below.refl _ _).drew)).base (by omega)⟩, HA.out⟩
set_option maxRecDepth 100000 in
set_option maxHeartbeats 4000000 in
theorem split_inner (A B C : Option Addr) (n c m d k e : Nat) (xs : List ByteArray) (ks rs : List Int) (h : Nat) (up : ByteArray) (w : World) (hN : Nd w A B C n c m d k e xs ks rs) (hM : mayB false xs m k = true) (h3 : 3 ≤ n) (hh : (n + 1) / 2 = h) (hup : xs[h]? = some up) : Calls Try.prog 15 #[.agg #[.bool false, .slice A n c, .slice B m d, .slice C k e]] w (SplEnd false (xs.take h) (ks.take (h + 1)) [] (xs.drop (h + 1)) (ks.drop (h + 1)) [] up 0 w) := by
  have hb0 : Below w.heap.size w (((w.alloc (.cells #[.bool false, .slice A n c, .slice B m d, .slice C k e] 28)).alloc (.cells #[.bool false, .slice none 0 0, .slice none 0 0, .slice none 0 0] 28)).alloc (.cells #[.bool false, .slice none 0 0, .slice none 0 0, .slice none 0 0] 28)) := (((Below.refl _ _).alloc (Nat.le_refl _) _).alloc (by simp) _).alloc (by simp; omega) _
  have H0 := Lib.hid (((Blk.new w #[.bool false, .slice A n c, .slice B m d, .slice C k e] 28).alloc (.cells #[.bool false, .slice none 0 0, .slice none 0 0, .slice none 0 0] 28)).alloc (.cells #[.bool false, .slice none 0 0, .slice none 0 0, .slice none 0 0] 28))
  have H1 := Lib.hid ((Blk.new2 (w.alloc (.cells #[.bool false, .slice A n c, .slice B m d, .slice C k e] 28)) #[.bool false, .slice none 0 0, .slice none 0 0, .slice none 0 0] 28 (B := w.heap.size + 1) (by simp)).alloc (.cells #[.bool false, .slice none 0 0, .slice none 0 0, .slice none 0 0] 28))
  have H2 := Lib.hid (Blk.new2 ((w.alloc (.cells #[.bool false, .slice A n c, .slice B m d, .slice C k e] 28)).alloc (.cells #[.bool false, .slice none 0 0, .slice none 0 0, .slice none 0 0] 28)) #[.bool false, .slice none 0 0, .slice none 0 0, .slice none 0 0] 28 (B := w.heap.size + 1 + 1) (by simp))
  have HB0 := Lib.hid hb0
  have HN := Lib.hid hN
  clear hb0 hN
  have hkn : m = n + 1 := by have h := may_true hM; rw [if_neg (by decide)] at h; have := HN.out.K.len; omega
  have d1 : decide ((n : Int) < 3) = false := decide_eq_false (by omega)
  have d2 : ((n : Int) + 1) / 2 = (h : Int) := by omega
  have d3 : IntKind.i64.wrap ((n : Int) + 1) = (n : Int) + 1 := IntWalk.i64_in _ (by have := HN.out.sz; omega)
  have d4 : ((n : Int) + 1).tdiv 2 = (h : Int) := by rw [Int.tdiv_eq_ediv_of_nonneg (by omega)]; exact d2
  have d5 : IntKind.i64.wrap ((h : Int) + 1) = ((h + 1 : Nat) : Int) := (IntWalk.i64_in _ (by have := HN.out.sz; omega)).trans (by omega)
  have hhn : h < n := by omega
  have d6 : wrap64 (h : Int) = (h : Int) := by have := HN.out.sz; unfold wrap64; omega
  obtain ⟨g, off, up', hA, hx, hcu⟩ := HN.out.K.rd.at hhn
  have hgl := lt_of_cell hcu
  have hup2 : up' = up := by rw [hx] at hup; exact Option.some.inj hup
  subst hup2 hA
  have i1 := sindex g off n c h (h : Int) rfl hhn
  obtain ⟨hr1, hs1⟩ := slice_hi (P := Try.prog) (t := 22) (e := 9) (some ⟨g, off, none⟩) n c h Try.underlying22 ssize (by omega) HN.out.K.le HN.out.K.nil
  obtain ⟨A2, hr2, hs2⟩ := slice_lo (P := Try.prog) (t := 22) (e := 9) (some ⟨g, off, none⟩) n c (h + 1) Try.underlying22 ssize (by omega) HN.out.K.le HN.out.K.nil
  obtain ⟨hr3, hs3⟩ := slice_hi (P := Try.prog) (t := 26) (e := 3) B m d (h + 1) Try.underlying26 isize (by omega) HN.out.D.le HN.out.D.nil
  obtain ⟨A4, hr4, hs4⟩ := slice_lo (P := Try.prog) (t := 26) (e := 3) B m d (h + 1) Try.underlying26 isize (by omega) HN.out.D.le HN.out.D.nil
  have C1 : Hid (∀ W, Aft w W → Calls Try.prog 38 #[.slice (some ⟨g, off, none⟩) h c] W (MadeEnd sv 9 (xs.take h) W)) := fun W hW => sClone _ _ _ _ W (hs1 W xs (HN.out.K.later hW).rd) (by have := HN.out.sz; omega)
  have C2 : Hid (∀ W, Aft w W → Calls Try.prog 38 #[.slice A2 (n - (h + 1)) (c - (h + 1))] W (MadeEnd sv 9 (xs.drop (h + 1)) W)) := fun W hW => sClone _ _ _ _ W (hs2 W xs (HN.out.K.later hW).rd) (by have := HN.out.sz; omega)
  have C3 : Hid (∀ W, Aft w W → Calls Try.prog 40 #[.slice B (h + 1) d] W (MadeEnd iv 3 (ks.take (h + 1)) W)) := fun W hW => iClone _ _ _ _ W (hs3 W ks (HN.out.D.later hW).rd) (by have := HN.out.sz; omega)
  have C4' : Hid (∀ W, Aft w W → Calls Try.prog 40 #[.slice A4 (m - (h + 1)) (d - (h + 1))] W (MadeEnd iv 3 (ks.drop (h + 1)) W)) := fun W hW => iClone _ _ _ _ W (hs4 W ks (HN.out.D.later hW).rd) (by have := HN.out.sz; omega)
  have HM := Lib.hid hM
  have HUP := Lib.hid hcu
  have d7 : (h : Int) + 1 = ((h + 1 : Nat) : Int) := by omega
  have d8 : IntKind.i64.wrap ((h + 1 : Nat) : Int) = ((h + 1 : Nat) : Int) := IntWalk.i64_in _ (by have := HN.out.sz; omega)
  have d9 : wrap64 ((h + 1 : Nat) : Int) = ((h + 1 : Nat) : Int) := by have := HN.out.sz; unfold wrap64; omega
  have hh1 : h + 1 ≤ n := hhn
  generalize h + 1 = h1 at *
  generalize hX1 : xs.take h = X1 at *
  generalize hX2 : xs.drop h1 = X2 at *
  generalize hR1 : ks.take h1 = R1 at *
  generalize hR2 : ks.drop h1 = R2 at *
  clear hM h3 hh hup hs1 hs2 hs3 hs4 hx hX1 hX2 hR1 hR2 hkn hcu
  go_enter Try.func15, Try.ntmps15
  go_wp2_with fail
  refine (May_any false (some ⟨g, off, none⟩) B C n c m d k e xs _ (HN.out.later HB0.out).K.rd (by have := HN.out.sz; omega) (by have := HN.out.sz; omega) (by have := HN.out.sz; omega)).mono ?_
  rintro x w1 ⟨rfl, hb⟩
  have HB1 := Lib.hid (stepB HB0.out hb)
  have H01 := Lib.hid ((H0).out.later hb)
  have H11 := Lib.hid ((H1).out.later hb)
  have H21 := Lib.hid ((H2).out.later hb)
  have c1 := H01.out.c4
  have r1 := H11.out.c4
  have l1 := H11.out.l4.2.2.2.2
  have s1 := H21.out.c4
  have m1 := H21.out.l4.2.2.2.2
  clear hb HB0 H0 H1 H2
  have hlt1 := H11.out.lt
  have hlt2 := H21.out.lt
  obtain ⟨b0, e0'⟩ : ∃ b0, w.heap.size = b0 := ⟨_, rfl⟩
  obtain ⟨b1, e1'⟩ : ∃ b1, w.heap.size + 1 = b1 := ⟨_, rfl⟩
  obtain ⟨b2, e2'⟩ : ∃ b2, w.heap.size + 1 + 1 = b2 := ⟨_, rfl⟩
  have q1 : ¬ b0 = b1 := by omega
  have q2 : ¬ b0 = b2 := by omega
  have q3 : ¬ b1 = b2 := by omega
  have q4 : ¬ b1 = b0 := by omega
  have q5 : ¬ b2 = b0 := by omega
  have q6 : ¬ b2 = b1 := by omega
  have p1 : w.heap.size ≤ b1 := by omega
  have p2 : w.heap.size ≤ b2 := by omega
  have p3 : b1 < b2 + 1 := by omega
  rw [e2'] at H21 s1 m1 hlt2 ⊢
  rw [e1'] at H11 r1 l1 hlt1 ⊢
  rw [e0'] at H01 c1
  simp only [e0'] at ⊢
  have E0 := Lib.hid e0'
  have E1 := Lib.hid e1'
  have E2 := Lib.hid e2'
  have P1 := Lib.hid p1
  have P2 := Lib.hid p2
  have Q1 := Lib.hid hlt1
  have Q2 := Lib.hid hlt2
  clear e0' e1' e2' hlt1 hlt2
  rw [HM.out]
  have K0 : Hid (SB w b0 b1 (.bool false) (.slice (some ⟨g, off, none⟩) n c) (.slice B m d) (.slice C k e) w1) := ⟨HB1.out, H01.out.c4, H11.out.l4⟩
  go_wp2_with fail
  go_region_held3 (SB w b0 b1 (.bool false) (.slice (some ⟨g, off, none⟩) n c) (.slice B m d) (.slice C k e)) (repeat (first | with_reducible assumption | with_reducible exact K0.out | with_reducible exact SB.drewN2 (by with_reducible assumption) | with_reducible refine SB.drew ?_ | with_reducible refine SB.drewN ?_ | with_reducible refine SB.alloc ?_ _ | with_reducible refine SB.later ?_ (by with_reducible assumption) | refine SB.set4 ?_ (by omega) (by omega))) (first
    | (go_at_call 38; refine (C1.out _ (Aft.below HB1.out (show Aft w1 _ by (repeat (first | with_reducible assumption | with_reducible exact Aft.refl _ | with_reducible exact Aft.drewN2 (by with_reducible assumption) _ | with_reducible refine Aft.drew ?_ | with_reducible refine Aft.drewN ?_ _ | with_reducible refine Aft.alloc ?_ _ | with_reducible refine Aft.below ?_ (by with_reducible assumption)))))).mono ?_; rintro x wK ⟨vK, rfl, hoK, hbK⟩; have hoK := Ow.base hoK (Aft.size (w := w1) (by (repeat (first | with_reducible assumption | with_reducible exact Aft.refl _ | with_reducible exact Aft.drewN2 (by with_reducible assumption) _ | with_reducible refine Aft.drew ?_ | with_reducible refine Aft.drewN ?_ _ | with_reducible refine Aft.alloc ?_ _ | with_reducible refine Aft.below ?_ (by with_reducible assumption))))); obtain ⟨AK, cK, rfl, hsK⟩ := Ow.sl hoK; clear hsK))
  have HB4 : Hid (Below w.heap.size w (((((wK).setCell ⟨b1, 0, none⟩ (.bool false)).setCell ⟨b1, 1, none⟩ (.slice AK X1.length cK)).setCell ⟨b1, 2, none⟩ (.slice none 0 0)).setCell ⟨b1, 3, none⟩ (.slice none 0 0))) := set4 (stepB HB1.out (show Aft w1 wK by (repeat (first | with_reducible assumption | with_reducible exact Aft.refl _ | with_reducible exact Aft.drewN2 (by with_reducible assumption) _ | with_reducible refine Aft.drew ?_ | with_reducible refine Aft.drewN ?_ _ | with_reducible refine Aft.alloc ?_ _ | with_reducible refine Aft.below ?_ (by with_reducible assumption))))) P1.out
  have H04 : Hid (Blk (((((wK).setCell ⟨b1, 0, none⟩ (.bool false)).setCell ⟨b1, 1, none⟩ (.slice AK X1.length cK)).setCell ⟨b1, 2, none⟩ (.slice none 0 0)).setCell ⟨b1, 3, none⟩ (.slice none 0 0)) b0 #[.bool false, .slice (some ⟨g, off, none⟩) n c, .slice B m d, .slice C k e] 28) := blk_other4 (H01.out.later (show Aft w1 wK by (repeat (first | with_reducible assumption | with_reducible exact Aft.refl _ | with_reducible exact Aft.drewN2 (by with_reducible assumption) _ | with_reducible refine Aft.drew ?_ | with_reducible refine Aft.drewN ?_ _ | with_reducible refine Aft.alloc ?_ _ | with_reducible refine Aft.below ?_ (by with_reducible assumption))))) q1
  have H14 : Hid (Blk (((((wK).setCell ⟨b1, 0, none⟩ (.bool false)).setCell ⟨b1, 1, none⟩ (.slice AK X1.length cK)).setCell ⟨b1, 2, none⟩ (.slice none 0 0)).setCell ⟨b1, 3, none⟩ (.slice none 0 0)) b1 #[.bool false, .slice AK X1.length cK, .slice none 0 0, .slice none 0 0] 28) := blk_set4 (H11.out.later (show Aft w1 wK by (repeat (first | with_reducible assumption | with_reducible exact Aft.refl _ | with_reducible exact Aft.drewN2 (by with_reducible assumption) _ | with_reducible refine Aft.drew ?_ | with_reducible refine Aft.drewN ?_ _ | with_reducible refine Aft.alloc ?_ _ | with_reducible refine Aft.below ?_ (by with_reducible assumption)))))
  have H24 : Hid (Blk (((((wK).setCell ⟨b1, 0, none⟩ (.bool false)).setCell ⟨b1, 1, none⟩ (.slice AK X1.length cK)).setCell ⟨b1, 2, none⟩ (.slice none 0 0)).setCell ⟨b1, 3, none⟩ (.slice none 0 0)) b2 #[.bool false, .slice none 0 0, .slice none 0 0, .slice none 0 0] 28) := blk_other4 (H21.out.later (show Aft w1 wK by (repeat (first | with_reducible assumption | with_reducible exact Aft.refl _ | with_reducible exact Aft.drewN2 (by with_reducible assumption) _ | with_reducible refine Aft.drew ?_ | with_reducible refine Aft.drewN ?_ _ | with_reducible refine Aft.alloc ?_ _ | with_reducible refine Aft.below ?_ (by with_reducible assumption))))) q6
  have O4 : Hid (Ow sv (((((wK).setCell ⟨b1, 0, none⟩ (.bool false)).setCell ⟨b1, 1, none⟩ (.slice AK X1.length cK)).setCell ⟨b1, 2, none⟩ (.slice none 0 0)).setCell ⟨b1, 3, none⟩ (.slice none 0 0)) (b2 + 1) 9 (.slice AK X1.length cK) X1.length X1) := ow_low4 (Ow.base hoK Q2.out) p3
  clear c1 r1 l1 s1 m1 H01 H11 H21 K0 hbK hoK
  generalize (((((wK).setCell ⟨b1, 0, none⟩ (.bool false)).setCell ⟨b1, 1, none⟩ (.slice AK X1.length cK)).setCell ⟨b1, 2, none⟩ (.slice none 0 0)).setCell ⟨b1, 3, none⟩ (.slice none 0 0)) = w4 at *
  have c4 := H04.out.c4
  have r4 := H14.out.c4
  have l4 := H14.out.f4
  go_wp2_with fail
  refine (C3.out _ HB4.out).mono ?_
  rintro x w5 ⟨v5, rfl, ho5, hb5⟩
  obtain ⟨A5, c5, rfl, hs5⟩ := Ow.sl ho5
  have HB5 := Lib.hid (stepB HB4.out hb5)
  have H05 := Lib.hid (H04.out.later hb5)
  have H15 := Lib.hid (H14.out.later hb5)
  have H25 := Lib.hid (H24.out.later hb5)
  have O5 := Lib.hid (O4.out.later hb5)
  have hsz4 : b2 < w4.heap.size := H24.out.lt
  have N5 := Lib.hid (Ow.base (B' := b2 + 1) ho5 hsz4)
  clear c4 r4 l4 hs5 ho5 hb5 HB4 H04 H14 H24 O4 hsz4
  have r5 := H15.out.c4
  have l5 := H15.out.f4
  have c5' := H05.out.c4
  go_wp2_with fail
  have HB6 : Hid (Below w.heap.size w (w5.setCell ⟨b1, 2, none⟩ (.slice A5 R1.length c5))) := HB5.out.setCell P1.out _
  have H06 : Hid (Blk (w5.setCell ⟨b1, 2, none⟩ (.slice A5 R1.length c5)) b0 #[.bool false, .slice (some ⟨g, off, none⟩) n c, .slice B m d, .slice C k e] 28) := H05.out.other q1 _
  have H16 : Hid (Blk (w5.setCell ⟨b1, 2, none⟩ (.slice A5 R1.length c5)) b1 #[.bool false, .slice AK X1.length cK, .slice A5 R1.length c5, .slice none 0 0] 28) := blk_set2 H15.out
  have H26 : Hid (Blk (w5.setCell ⟨b1, 2, none⟩ (.slice A5 R1.length c5)) b2 #[.bool false, .slice none 0 0, .slice none 0 0, .slice none 0 0] 28) := H25.out.other q6 _
  have O6 : Hid (Ow sv (w5.setCell ⟨b1, 2, none⟩ (.slice A5 R1.length c5)) (b2 + 1) 9 (.slice AK X1.length cK) X1.length X1) := ow_low O5.out p3
  have N6 : Hid (Ow iv (w5.setCell ⟨b1, 2, none⟩ (.slice A5 R1.length c5)) (b2 + 1) 3 (.slice A5 R1.length c5) R1.length R1) := ow_low N5.out p3
  clear r5 l5 c5' HB5 H05 H15 H25 O5 N5
  generalize (w5.setCell ⟨b1, 2, none⟩ (.slice A5 R1.length c5)) = w6 at *
  have K7 : Hid (SB w b0 b2 (.bool false) (.slice (some ⟨g, off, none⟩) n c) (.slice B m d) (.slice C k e) w6) := ⟨HB6.out, H06.out.c4, H26.out.l4⟩
  go_region_held3 (SB w b0 b2 (.bool false) (.slice (some ⟨g, off, none⟩) n c) (.slice B m d) (.slice C k e)) (repeat (first | with_reducible assumption | with_reducible exact K7.out | with_reducible exact SB.drewN2 (by with_reducible assumption) | with_reducible refine SB.drew ?_ | with_reducible refine SB.drewN ?_ | with_reducible refine SB.alloc ?_ _ | with_reducible refine SB.later ?_ (by with_reducible assumption) | refine SB.set4 ?_ (by omega) (by omega))) (first
    | (go_at_call 38; refine (C2.out _ (Aft.below HB6.out (show Aft w6 _ by (repeat (first | with_reducible assumption | with_reducible exact Aft.refl _ | with_reducible exact Aft.drewN2 (by with_reducible assumption) _ | with_reducible refine Aft.drew ?_ | with_reducible refine Aft.drewN ?_ _ | with_reducible refine Aft.alloc ?_ _ | with_reducible refine Aft.below ?_ (by with_reducible assumption)))))).mono ?_; rintro x wP ⟨vP, rfl, hoP, hbP⟩; have hoP := Ow.base hoP (Aft.size (w := w6) (by (repeat (first | with_reducible assumption | with_reducible exact Aft.refl _ | with_reducible exact Aft.drewN2 (by with_reducible assumption) _ | with_reducible refine Aft.drew ?_ | with_reducible refine Aft.drewN ?_ _ | with_reducible refine Aft.alloc ?_ _ | with_reducible refine Aft.below ?_ (by with_reducible assumption))))); obtain ⟨AP, cP, rfl, hsP⟩ := Ow.sl hoP; clear hsP)
    | (go_at_call 40; refine (C4'.out _ (Aft.below HB6.out (show Aft w6 _ by (repeat (first | with_reducible assumption | with_reducible exact Aft.refl _ | with_reducible exact Aft.drewN2 (by with_reducible assumption) _ | with_reducible refine Aft.drew ?_ | with_reducible refine Aft.drewN ?_ _ | with_reducible refine Aft.alloc ?_ _ | with_reducible refine Aft.below ?_ (by with_reducible assumption)))))).mono ?_; rintro x wQ ⟨vQ, rfl, hoQ, hbQ⟩; have hoQ := Ow.base hoQ (Aft.size (w := w6) (by (repeat (first | with_reducible assumption | with_reducible exact Aft.refl _ | with_reducible exact Aft.drewN2 (by with_reducible assumption) _ | with_reducible refine Aft.drew ?_ | with_reducible refine Aft.drewN ?_ _ | with_reducible refine Aft.alloc ?_ _ | with_reducible refine Aft.below ?_ (by with_reducible assumption))))); obtain ⟨AQ, cQ, rfl, hsQ⟩ := Ow.sl hoQ; clear hsQ))
  · rename_i hq0
    clear hq0
    have HB8 : Hid (Below w.heap.size w (((((wQ).setCell ⟨b2, 0, none⟩ (.bool false)).setCell ⟨b2, 1, none⟩ (.slice AP X2.length cP)).setCell ⟨b2, 2, none⟩ (.slice AQ R2.length cQ)).setCell ⟨b2, 3, none⟩ (.slice none 0 0))) := set4 (stepB HB6.out (show Aft w6 wQ by (repeat (first | with_reducible assumption | with_reducible exact Aft.refl _ | with_reducible exact Aft.drewN2 (by with_reducible assumption) _ | with_reducible refine Aft.drew ?_ | with_reducible refine Aft.drewN ?_ _ | with_reducible refine Aft.alloc ?_ _ | with_reducible refine Aft.below ?_ (by with_reducible assumption))))) P2.out
    have H08 : Hid (Blk (((((wQ).setCell ⟨b2, 0, none⟩ (.bool false)).setCell ⟨b2, 1, none⟩ (.slice AP X2.length cP)).setCell ⟨b2, 2, none⟩ (.slice AQ R2.length cQ)).setCell ⟨b2, 3, none⟩ (.slice none 0 0)) b0 #[.bool false, .slice (some ⟨g, off, none⟩) n c, .slice B m d, .slice C k e] 28) := blk_other4 (H06.out.later (show Aft w6 wQ by (repeat (first | with_reducible assumption | with_reducible exact Aft.refl _ | with_reducible exact Aft.drewN2 (by with_reducible assumption) _ | with_reducible refine Aft.drew ?_ | with_reducible refine Aft.drewN ?_ _ | with_reducible refine Aft.alloc ?_ _ | with_reducible refine Aft.below ?_ (by with_reducible assumption))))) q2
    have H18 : Hid (Blk (((((wQ).setCell ⟨b2, 0, none⟩ (.bool false)).setCell ⟨b2, 1, none⟩ (.slice AP X2.length cP)).setCell ⟨b2, 2, none⟩ (.slice AQ R2.length cQ)).setCell ⟨b2, 3, none⟩ (.slice none 0 0)) b1 #[.bool false, .slice AK X1.length cK, .slice A5 R1.length c5, .slice none 0 0] 28) := blk_other4 (H16.out.later (show Aft w6 wQ by (repeat (first | with_reducible assumption | with_reducible exact Aft.refl _ | with_reducible exact Aft.drewN2 (by with_reducible assumption) _ | with_reducible refine Aft.drew ?_ | with_reducible refine Aft.drewN ?_ _ | with_reducible refine Aft.alloc ?_ _ | with_reducible refine Aft.below ?_ (by with_reducible assumption))))) q3
    have H28 : Hid (Blk (((((wQ).setCell ⟨b2, 0, none⟩ (.bool false)).setCell ⟨b2, 1, none⟩ (.slice AP X2.length cP)).setCell ⟨b2, 2, none⟩ (.slice AQ R2.length cQ)).setCell ⟨b2, 3, none⟩ (.slice none 0 0)) b2 #[.bool false, .slice AP X2.length cP, .slice AQ R2.length cQ, .slice none 0 0] 28) := blk_set4 (H26.out.later (show Aft w6 wQ by (repeat (first | with_reducible assumption | with_reducible exact Aft.refl _ | with_reducible exact Aft.drewN2 (by with_reducible assumption) _ | with_reducible refine Aft.drew ?_ | with_reducible refine Aft.drewN ?_ _ | with_reducible refine Aft.alloc ?_ _ | with_reducible refine Aft.below ?_ (by with_reducible assumption)))))
    have hsz6 : b2 < w6.heap.size := H26.out.lt
    have O8 : Hid (Ow sv (((((wQ).setCell ⟨b2, 0, none⟩ (.bool false)).setCell ⟨b2, 1, none⟩ (.slice AP X2.length cP)).setCell ⟨b2, 2, none⟩ (.slice AQ R2.length cQ)).setCell ⟨b2, 3, none⟩ (.slice none 0 0)) (b2 + 1) 9 (.slice AK X1.length cK) X1.length X1) := ow_low4 (O6.out.later (show Aft w6 wQ by (repeat (first | with_reducible assumption | with_reducible exact Aft.refl _ | with_reducible exact Aft.drewN2 (by with_reducible assumption) _ | with_reducible refine Aft.drew ?_ | with_reducible refine Aft.drewN ?_ _ | with_reducible refine Aft.alloc ?_ _ | with_reducible refine Aft.below ?_ (by with_reducible assumption))))) (by omega)
    have N8 : Hid (Ow iv (((((wQ).setCell ⟨b2, 0, none⟩ (.bool false)).setCell ⟨b2, 1, none⟩ (.slice AP X2.length cP)).setCell ⟨b2, 2, none⟩ (.slice AQ R2.length cQ)).setCell ⟨b2, 3, none⟩ (.slice none 0 0)) (b2 + 1) 3 (.slice A5 R1.length c5) R1.length R1) := ow_low4 (N6.out.later (show Aft w6 wQ by (repeat (first | with_reducible assumption | with_reducible exact Aft.refl _ | with_reducible exact Aft.drewN2 (by with_reducible assumption) _ | with_reducible refine Aft.drew ?_ | with_reducible refine Aft.drewN ?_ _ | with_reducible refine Aft.alloc ?_ _ | with_reducible refine Aft.below ?_ (by with_reducible assumption))))) (by omega)
    have P8 : Hid (Ow sv (((((wQ).setCell ⟨b2, 0, none⟩ (.bool false)).setCell ⟨b2, 1, none⟩ (.slice AP X2.length cP)).setCell ⟨b2, 2, none⟩ (.slice AQ R2.length cQ)).setCell ⟨b2, 3, none⟩ (.slice none 0 0)) (b2 + 1) 9 (.slice AP X2.length cP) X2.length X2) := ow_low4 ((Ow.base hoP hsz6).later (show Aft wP wQ by (repeat (first | with_reducible assumption | with_reducible exact Aft.refl _ | with_reducible exact Aft.drewN2 (by with_reducible assumption) _ | with_reducible refine Aft.drew ?_ | with_reducible refine Aft.drewN ?_ _ | with_reducible refine Aft.alloc ?_ _ | with_reducible refine Aft.below ?_ (by with_reducible assumption))))) (by omega)
    have Q8 : Hid (Ow iv (((((wQ).setCell ⟨b2, 0, none⟩ (.bool false)).setCell ⟨b2, 1, none⟩ (.slice AP X2.length cP)).setCell ⟨b2, 2, none⟩ (.slice AQ R2.length cQ)).setCell ⟨b2, 3, none⟩ (.slice none 0 0)) (b2 + 1) 3 (.slice AQ R2.length cQ) R2.length R2) := ow_low4 ((Ow.base hoQ hsz6).later (show Aft wQ wQ by (repeat (first | with_reducible assumption | with_reducible exact Aft.refl _ | with_reducible exact Aft.drewN2 (by with_reducible assumption) _ | with_reducible refine Aft.drew ?_ | with_reducible refine Aft.drewN ?_ _ | with_reducible refine Aft.alloc ?_ _ | with_reducible refine Aft.below ?_ (by with_reducible assumption))))) (by omega)
    clear hsz6 hoP hoQ hbP hbQ HB6 H06 H16 H26 O6 N6 K7
    generalize (((((wQ).setCell ⟨b2, 0, none⟩ (.bool false)).setCell ⟨b2, 1, none⟩ (.slice AP X2.length cP)).setCell ⟨b2, 2, none⟩ (.slice AQ R2.length cQ)).setCell ⟨b2, 3, none⟩ (.slice none 0 0)) = w8 at *
    have K10 : Hid ((SR w b0 b1 b2 (.bool false) (.slice (some ⟨g, off, none⟩) n c) (.slice B m d) (.slice C k e) (.bool false) (.slice AK X1.length cK) (.slice A5 R1.length c5) (.slice none 0 0) (.bool false) (.slice AP X2.length cP) (.slice AQ R2.length cQ) (.slice none 0 0) g (off + h) (.string up')) w8) := ⟨HB8.out, H08.out.c4, H18.out.c4, H18.out.f4, H28.out.c4, H28.out.f4, (HB8.out.cell (p := ⟨g, off + h, none⟩) hgl).trans HUP.out⟩
    have z1 : g ≠ b1 := by omega
    have z2 : g ≠ b2 := by omega
    go_wp2_with fail
    have KK := K10.out
    go_region
    clear KK
    obtain ⟨hA, _, ⟨f0, f1, f2, f3⟩, _, ⟨g0, g1, g2, g3⟩, _, _⟩ := SR.drew (SR.set2 (SR.set1 K10.out p1 q1 q6 z1) p2 q2 q3 z2)
    have HA := Lib.hid hA
    clear hA K10 d1 d2 d3 d4 d5 d6
    go_wp2
    exact bodyPost_ret (v := .tuple #[.agg #[.bool false, .slice AK X1.length cK, .slice A5 R1.length c5, .slice none 0 0], .agg #[.bool false, .slice AP X2.length cP, .slice AQ R2.length cQ, .slice none 0 0], .string up', .int .i64 0]) (by simp [results, Try.results15, go_sem, f0, f1, f2, f3, g0, g1, g2, g3]) rfl ⟨_, _, rfl, ⟨_, _, _, rfl, ((ow_low4 (ow_low4 O8.out (by omega)) (by omega)).later ((Below.refl _ _).drew)).base (by omega), ((ow_low4 (ow_low4 N8.out (by omega)) (by omega)).later ((Below.refl _ _).drew)).base (by omega), Ow.none _ _ _⟩, ⟨_, _, _, rfl, ((ow_low4 (ow_low4 P8.out (by omega)) (by omega)).later ((Below.refl _ _).drew)).base (by omega), ((ow_low4 (ow_low4 Q8.out (by omega)) (by omega)).later ((Below.refl _ _).drew)).base (by omega), Ow.none _ _ _⟩, HA.out⟩
end Go.Proofs.Ytiojjpmkiljngaa
