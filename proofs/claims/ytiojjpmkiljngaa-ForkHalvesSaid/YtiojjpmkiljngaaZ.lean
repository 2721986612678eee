/- What is told, written over to its cap. -/
import Derived.Test.YtiojjpmkiljngaaJ4
namespace Go.Proofs.Ytiojjpmkiljngaa
open Go.ChangeShapes Go.WideShapes Go.ChangeAt Go.RowKit
set_option linter.unusedVariables false
set_option linter.unusedSimpArgs false

/-- a row's room -/
def Rm (W : World) (G : Nat) (e : TypeId) (A : Option Addr) (c : Nat) : Prop := (A = none ∧ c = 0) ∨ ∃ g cur, A = some ⟨g, 0, none⟩ ∧ Blk W g cur e ∧ cur.size = c ∧ G ≤ g
theorem Rm.later {W W' : World} {G c : Nat} {e : TypeId} {A : Option Addr} (h : Rm W G e A c) (hb : Below W.heap.size W W') : Rm W' G e A c := by
  rcases h with h | ⟨g, cur, h1, h2, h3⟩
  · exact .inl h
  · exact .inr ⟨g, cur, h1, h2.later hb, h3⟩
theorem Rm.set {W : World} {G c g j : Nat} {e : TypeId} {A : Option Addr} (h : Rm W G e A c) (v : Value) : Rm (W.setCell ⟨g, j, none⟩ v) G e A c := by
  rcases h with h | ⟨g', cur, h1, h2, h3, h4⟩
  · exact .inl h
  · by_cases hg : g' = g
    · subst hg; exact .inr ⟨g', _, h1, h2.set v, by simpa using h3, h4⟩
    · exact .inr ⟨g', cur, h1, h2.other hg v, h3, h4⟩
theorem Rm.at {W : World} {G c j : Nat} {e : TypeId} {A : Option Addr} (h : Rm W G e A c) (hj : j < c) : ∃ g u, A = some ⟨g, 0, none⟩ ∧ W.cell? ⟨g, j, none⟩ = some u ∧ W.frozen? ⟨g, j, none⟩ = false ∧ G ≤ g := by
  rcases h with ⟨_, h⟩ | ⟨g, cur, h1, h2, h3, h4⟩
  · omega
  · exact ⟨g, cur[j], h1, by rw [h2.cell]; exact Array.getElem?_eq_getElem (by omega), h2.frozen j, h4⟩
theorem Rm.nil {W : World} {G c : Nat} {e : TypeId} {A : Option Addr} (h : Rm W G e A c) (hA : A = none) : c = 0 := by
  rcases h with h | ⟨g, cur, h1, _⟩
  · exact h.2
  · rw [hA] at h1; cases h1
theorem Ow.room {α : Type} {enc : α → Value} {W : World} {G n : Nat} {e : TypeId} {v : Value} {xs : List α} (h : Ow enc W G e v n xs) : ∃ A c, v = .slice A n c ∧ Sl enc W A n c xs ∧ Rm W G e A c ∧ c ≤ 9223372036854775807 := by
  obtain ⟨A, c, rfl, hs⟩ := h.sl
  refine ⟨A, c, rfl, hs, ?_⟩
  rcases h.2 with ⟨e1, e2⟩ | ⟨g, cap, cur, e1, hB, hg, hn, hm, hz, _⟩
  · cases e1; exact ⟨.inl ⟨rfl, rfl⟩, by omega⟩
  · cases e1; exact ⟨.inr ⟨g, cur, rfl, hg, by omega, hB⟩, by unfold maxLen at hm; omega⟩
theorem slice_cap {P : Program} {t e : TypeId} (A : Option Addr) (m c : Nat) (ht : P.underlying t = some (.slice e)) (hz : ∀ w, (Go.sizeOf e).run P w = .ok 1 w) (hc : m ≤ c) (W : World) :
    (Instr.slice t (.slice A m c) .none (some (.int .i64 (c : Int))) .none).run P W = .ok (.slice A c c) W := by
  have ht' : P.underlying t = some (.slice (P.elem t)) := by simp [Program.elem, ht]
  have he : P.elem t = e := by simp [Program.elem, ht]
  rw [run_slice_h W t _ _ _ ht' .i64 _ (by omega) (by omega), he, hz]
  cases A with
  | none => simp [Result.andThen, sliced]
  | some a => by_cases e : c = 0 <;> simp [Result.andThen, sliced, Addr.add, e]
theorem index_at {t e : TypeId} (g m c k : Nat) (ht : Try.prog.underlying t = some (.slice e)) (hz : ∀ w, (Go.sizeOf e).run Try.prog w = .ok 1 w) (i : Int) (hi : i = (k : Int)) (h : k < m) (W : World) : (Instr.indexAt t (.slice (some ⟨g, 0, none⟩) m c) (.int .i64 i)).run Try.prog W = .ok (.pointer (some ⟨g, k, none⟩)) W := by
  subst hi
  have h1 : (0 : Int) ≤ (k : Int) ∧ (k : Int) < (m : Int) := by omega
  simp only [Instr.indexAt, Sem.run_bind, run_underlying ht, Result.andThen_ok]
  go_simp
set_option maxRecDepth 100000 in
set_option maxHeartbeats 4000000 in
theorem told_any (G : Nat) (lf : Bool) (v : Value) (xs : List ByteArray) (ks rs : List Int) (lf' : Bool) (A' B' C' : Option Addr) (n' c' m' d' k' e' : Nat) (ys : List ByteArray) (js ss : List Int) (w : World) (hO : NdO w G v lf xs ks rs) (hz : xs.length + ks.length + rs.length ≤ 200000) (hG : G ≤ w.heap.size) (hM : Nd w A' B' C' n' c' m' d' k' e' ys js ss) :
    Calls Try.prog 29 #[v, .agg #[.bool lf', .slice A' n' c', .slice B' m' d', .slice C' k' e']] w (fun x w' => x = .returned (.bool (sameN lf lf' xs ys ks js rs ss)) ∧ Below G w w') := by
  obtain ⟨v1, v2, v3, rfl, h1, h2, h3⟩ := hO
  obtain ⟨n, hn⟩ : ∃ n, xs.length = n := ⟨_, rfl⟩
  obtain ⟨m, hm⟩ : ∃ m, ks.length = m := ⟨_, rfl⟩
  obtain ⟨k, hk⟩ : ∃ k, rs.length = k := ⟨_, rfl⟩
  rw [hn] at h1
  rw [hm] at h2
  rw [hk] at h3
  rw [hn, hm, hk] at hz
  obtain ⟨A, c, rfl, s1, r1, hc⟩ := h1.room
  obtain ⟨B, d, rfl, s2, r2, hd⟩ := h2.room
  obtain ⟨C, e, rfl, s3, r3, he⟩ := h3.room
  have hN : Nd w A B C n c m d k e xs ks rs := ⟨s1, s2, s3, hz⟩
  have hb0 : Below w.heap.size w ((w.alloc (.cells #[.bool lf, .slice A n c, .slice B m d, .slice C k e] 28)).alloc (.cells #[.bool lf', .slice A' n' c', .slice B' m' d', .slice C' k' e'] 47)) := ((Below.refl _ _).alloc (Nat.le_refl _) _).alloc (by simp) _
  have b0 := Lib.hid ((Blk.new w #[.bool lf, .slice A n c, .slice B m d, .slice C k e] 28).alloc (.cells #[.bool lf', .slice A' n' c', .slice B' m' d', .slice C' k' e'] 47))
  have b1 := Lib.hid (Blk.new2 (w.alloc (.cells #[.bool lf, .slice A n c, .slice B m d, .slice C k e] 28)) #[.bool lf', .slice A' n' c', .slice B' m' d', .slice C' k' e'] 47 (B := w.heap.size + 1) (by simp))
  have HB := Lib.hid hb0
  have HN := Lib.hid (hN.later hb0)
  have HM := Lib.hid (hM.later hb0)
  have HR1 := Lib.hid (r1.later hb0)
  have HR2 := Lib.hid (r2.later hb0)
  have HR3 := Lib.hid (r3.later hb0)
  have sl1 := slice_cap (P := Try.prog) (t := 22) (e := 9) A n c Try.underlying22 ssize s1.le
  have sl2 := slice_cap (P := Try.prog) (t := 26) (e := 3) B m d Try.underlying26 isize s2.le
  have sl3 := slice_cap (P := Try.prog) (t := 25) (e := 24) C k e Try.underlying25 hsize s3.le
  clear hb0 hN hM r1 r2 r3 s1 s2 s3 h1 h2 h3 hn hm hk
  go_enter Try.func29, Try.ntmps29
  go_wp2_with fail
  generalize (w.alloc (.cells #[.bool lf, .slice A n c, .slice B m d, .slice C k e] 28)).alloc (.cells #[.bool lf', .slice A' n' c', .slice B' m' d', .slice C' k' e'] 47) = w0 at *
  have c0 := b0.out.c4
  have c1 := b1.out.c4
  go_wp2_with fail
  refine (rsame_any lf A B C n c m d k e xs ks rs lf' A' B' C' n' c' m' d' k' e' ys js ss w0 HN.out HM.out).mono ?_
  rintro x w1 ⟨rfl, hb⟩
  generalize hres : sameN lf lf' xs ys ks js rs ss = res at *
  have HRES := Lib.hid hres
  clear hres
  have c0 := (b0.out.later hb).c4
  have HW0 : Hid (Below G w w1 ∧ Rm w1 G 9 A c ∧ Rm w1 G 3 B d ∧ Rm w1 G 24 C e) := ⟨(stepB HB.out hb).mono hG, HR1.out.later hb, HR2.out.later hb, HR3.out.later hb⟩
  clear hb HB HN HM HR1 HR2 HR3 b0 b1 c1
  go_wp2
  go_quiet (fail)
  have HW1 : Hid (Below G w (w1.drewN nq) ∧ Rm (w1.drewN nq) G 9 A c ∧ Rm (w1.drewN nq) G 3 B d ∧ Rm (w1.drewN nq) G 24 C e) := ⟨below_drewN HW0.out.1 nq, HW0.out.2.1.later (below_drewN (Below.refl _ _) nq), HW0.out.2.2.1.later (below_drewN (Below.refl _ _) nq), HW0.out.2.2.2.later (below_drewN (Below.refl _ _) nq)⟩
  generalize w1.drewN nq = w2 at *
  clear HW0 c0 sl1 sl2 sl3
  go_wp2
  go_loopw [9] (fun i wr => ∃ j : Nat, j ≤ c ∧ i = .int .i64 j ∧ Below G w wr ∧ Rm wr G 9 A c ∧ Rm wr G 3 B d ∧ Rm wr G 24 C e) (fun i _ => c - (intOf i).toNat)
  case atStart => exact ⟨0, Nat.zero_le _, rfl, HW1.out⟩
  case round =>
    obtain ⟨j, hj, rfl, hinv⟩ := hrel
    have HW9 : Hid (Below G w wr ∧ Rm wr G 9 A c ∧ Rm wr G 3 B d ∧ Rm wr G 24 C e) := hinv
    clear hinv
    by_cases hlt : j < c
    · obtain ⟨g, u, hA, hcell, hfr, hg⟩ := (HW9.out).2.1.at hlt
      have d1 : decide ((j : Int) < (c : Int)) = true := decide_eq_true (by omega)
      have i1 := index_at g c c j Try.underlying22 ssize (j : Int) rfl hlt
      subst hA
      have HW2 : Hid (Below G w (wr.setCell ⟨g, j, none⟩ (.string ⟨#[115, 112, 111, 105, 108, 116]⟩)) ∧ Rm (wr.setCell ⟨g, j, none⟩ (.string ⟨#[115, 112, 111, 105, 108, 116]⟩)) G 9 (some ⟨g, 0, none⟩) c ∧ Rm (wr.setCell ⟨g, j, none⟩ (.string ⟨#[115, 112, 111, 105, 108, 116]⟩)) G 3 B d ∧ Rm (wr.setCell ⟨g, j, none⟩ (.string ⟨#[115, 112, 111, 105, 108, 116]⟩)) G 24 C e) := ⟨HW9.out.1.setCell hg _, HW9.out.2.1.set _, HW9.out.2.2.1.set _, HW9.out.2.2.2.set _⟩
      clear hg
      go_wp2
      go_roundw
      case rel => exact ⟨j + 1, by omega, by go_num, HW2.out⟩
      case measure => simp [intOf]; omega
    · obtain rfl : c = j := by omega
      have d1 : decide ((c : Int) < (c : Int)) = false := decide_eq_false (by omega)
      go_wp2
      go_loopw [10] (fun i wr => ∃ j : Nat, j ≤ d ∧ i = .int .i64 j ∧ Below G w wr ∧ Rm wr G 9 A c ∧ Rm wr G 3 B d ∧ Rm wr G 24 C e) (fun i _ => d - (intOf i).toNat)
      case atStart => exact ⟨0, Nat.zero_le _, rfl, HW9.out⟩
      case round =>
        obtain ⟨j, hj, rfl, hinv⟩ := hrel
        have HW10 : Hid (Below G w wr ∧ Rm wr G 9 A c ∧ Rm wr G 3 B d ∧ Rm wr G 24 C e) := hinv
        clear hinv
        by_cases hlt : j < d
        · obtain ⟨g, u, hA, hcell, hfr, hg⟩ := (HW10.out).2.2.1.at hlt
          have d1 : decide ((j : Int) < (d : Int)) = true := decide_eq_true (by omega)
          have i1 := index_at g d d j Try.underlying26 isize (j : Int) rfl hlt
          subst hA
          have HW2 : Hid (Below G w (wr.setCell ⟨g, j, none⟩ (.int .i64 (-7))) ∧ Rm (wr.setCell ⟨g, j, none⟩ (.int .i64 (-7))) G 9 A c ∧ Rm (wr.setCell ⟨g, j, none⟩ (.int .i64 (-7))) G 3 (some ⟨g, 0, none⟩) d ∧ Rm (wr.setCell ⟨g, j, none⟩ (.int .i64 (-7))) G 24 C e) := ⟨HW10.out.1.setCell hg _, HW10.out.2.1.set _, HW10.out.2.2.1.set _, HW10.out.2.2.2.set _⟩
          clear hg
          go_wp2
          go_roundw
          case rel => exact ⟨j + 1, by omega, by go_num, HW2.out⟩
          case measure => simp [intOf]; omega
        · obtain rfl : d = j := by omega
          have d1 : decide ((d : Int) < (d : Int)) = false := decide_eq_false (by omega)
          go_wp2
          go_loopw [11] (fun i wr => ∃ j : Nat, j ≤ e ∧ i = .int .i64 j ∧ Below G w wr ∧ Rm wr G 9 A c ∧ Rm wr G 3 B d ∧ Rm wr G 24 C e) (fun i _ => e - (intOf i).toNat)
          case atStart => exact ⟨0, Nat.zero_le _, rfl, HW10.out⟩
          case round =>
            obtain ⟨j, hj, rfl, hinv⟩ := hrel
            have HW11 : Hid (Below G w wr ∧ Rm wr G 9 A c ∧ Rm wr G 3 B d ∧ Rm wr G 24 C e) := hinv
            clear hinv
            by_cases hlt : j < e
            · obtain ⟨g, u, hA, hcell, hfr, hg⟩ := (HW11.out).2.2.2.at hlt
              have d1 : decide ((j : Int) < (e : Int)) = true := decide_eq_true (by omega)
              have i1 := index_at g e e j Try.underlying25 hsize (j : Int) rfl hlt
              subst hA
              have HW2 : Hid (Below G w (wr.setCell ⟨g, j, none⟩ (.int .u64 77)) ∧ Rm (wr.setCell ⟨g, j, none⟩ (.int .u64 77)) G 9 A c ∧ Rm (wr.setCell ⟨g, j, none⟩ (.int .u64 77)) G 3 B d ∧ Rm (wr.setCell ⟨g, j, none⟩ (.int .u64 77)) G 24 (some ⟨g, 0, none⟩) e) := ⟨HW11.out.1.setCell hg _, HW11.out.2.1.set _, HW11.out.2.2.1.set _, HW11.out.2.2.2.set _⟩
              clear hg
              go_wp2
              go_roundw
              case rel => exact ⟨j + 1, by omega, by go_num, HW2.out⟩
              case measure => simp [intOf]; omega
            · obtain rfl : e = j := by omega
              have d1 : decide ((e : Int) < (e : Int)) = false := decide_eq_false (by omega)
              go_wp2
              go_ret
              exact ⟨ret_bool HRES.out.symm, HW11.out.1⟩
end Go.Proofs.Ytiojjpmkiljngaa
