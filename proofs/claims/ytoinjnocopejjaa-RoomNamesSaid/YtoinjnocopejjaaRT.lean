/- How many there are of all keys: Retained. -/
import Derived.Test.YtoinjnocopejjaaOC
import Derived.Test.YtoinjnocopejjaaSA
import Derived.StringKeys
import Derived.StillTailTactics
namespace Go.Proofs.Ytoinjnocopejjaa
open Go.ChangeShapes Go.WideShapes Go.ChangeAt Go.RowKit Go.Maps
set_option linter.unusedVariables false
set_option linter.unusedSimpArgs false
section
variable {α : Type} (g : α → Nat)
def sL (l : List (ByteArray × α)) (left : Lit → Bool) : Nat := ((l.filter fun p => !left (.string (bl p.1))).map fun p => g p.2).sum
def sA (l : List (ByteArray × α)) : Nat := (l.map fun p => g p.2).sum
theorem sL_end {l : List (ByteArray × α)} {left : Lit → Bool} (h : ∀ kl, left kl = false) : sL g l left = sA g l := by
  unfold sL sA
  congr 2
  refine List.filter_eq_self.2 (fun p _ => by rw [h]; rfl)
theorem sL_le (l : List (ByteArray × α)) (left : Lit → Bool) : sL g l left ≤ sA g l := by
  induction l with
  | nil => exact Nat.le_refl _
  | cons p l ih =>
    unfold sL sA at ih ⊢
    rw [List.filter_cons]
    split
    · rw [List.map_cons, List.map_cons, List.sum_cons, List.sum_cons]; omega
    · rw [List.map_cons, List.sum_cons]; omega
theorem sL_step : ∀ {l : List (ByteArray × α)} {left : Lit → Bool} {x : ByteArray} {c : α}, Up l → left (.string (bl x)) = true → (x, c) ∈ l → sL g l (fun z => left z && !z.sameKey (.string (bl x))) = sL g l left + g c
  | [], _, _, _, _, _, h => by cases h
  | p :: l, left, x, c, hu, hl, h => by
    obtain ⟨h1, h2⟩ := List.pairwise_cons.1 hu
    unfold sL
    simp only [List.filter_cons, same_str]
    rcases List.mem_cons.1 h with rfl | h
    · have e : (l.filter fun p => !(left (.string (bl p.1)) && !decide (p.1 = x))) = (l.filter fun p => !left (.string (bl p.1))) := by
        refine List.filter_congr (fun q hq => ?_)
        have := kB_ne (h1 q hq)
        rw [decide_eq_false (show ¬ q.1 = x from fun e => this e.symm)]
        simp
      simp only [decide_true, Bool.not_true, Bool.and_false, Bool.not_false, if_true, hl, Bool.false_eq_true, if_false]
      rw [List.map_cons, List.sum_cons, e]; simp only; omega
    · have ih := sL_step (l := l) h2 hl h
      unfold sL at ih
      simp only [same_str] at ih
      have hne : ¬ p.1 = x := kB_ne (h1 _ h)
      rw [decide_eq_false hne]
      simp only [Bool.not_false, Bool.and_true]
      split
      · rw [List.map_cons, List.sum_cons, List.map_cons, List.sum_cons, ih]; omega
      · exact ih
theorem sA_le {m : Nat} : ∀ {l : List (ByteArray × α)}, (∀ p ∈ l, g p.2 ≤ m) → sA g l ≤ m * l.length
  | [], _ => Nat.zero_le _
  | p :: l, h => by
    have h1 := h p (List.mem_cons_self ..)
    have h2 := sA_le (l := l) (fun q hq => h q (List.mem_cons_of_mem _ hq))
    show g p.2 + sA g l ≤ m * (l.length + 1)
    rw [Nat.mul_add]; omega
end
theorem sL_start (l : List (ByteArray × Hd)) : sL (fun h => retR (hdR h)) l (Maps.has (dm (mp rowV l))) = 0 := by
  have h : ∀ p ∈ l, (!Maps.has (dm (mp rowV l)) (.string (bl p.1))) = false := fun p hp => by
    rw [has_dm, mp_has, has_iff.2 ⟨p.2, hp⟩]; rfl
  unfold sL
  rw [List.filter_eq_nil_iff.2 (fun p hp => by rw [h p hp]; decide)]
  rfl
theorem mem_of_at {l : List (ByteArray × Value)} {x : ByteArray} {c : Value} (h : ∀ zd, (dm l).atKey (.string (bl x)) zd = .held c) : (x, c) ∈ l := by
  have h1 := h (.held (.bool true))
  have h2 := h (.held (.bool false))
  rw [atKey_dm] at h1 h2
  simp only [DataW.held.injEq] at h1 h2
  cases e : hasK l x with
  | true => rw [← h1]; exact get_mem e
  | false =>
    rw [get_none e] at h1 h2
    rw [← h2] at h1; cases h1
theorem mem_mp {α β : Type} {f : α → β} {l : List (ByteArray × α)} {x : ByteArray} {c : β} (h : (x, c) ∈ mp f l) : ∃ a, (x, a) ∈ l ∧ c = f a := by
  unfold mp at h
  obtain ⟨q, hq, e⟩ := List.mem_map.1 h
  cases e
  exact ⟨q.2, hq, rfl⟩
theorem wpList_next_h {ops : Array Oper} {rest : List Oper} {o : Oper} {a : Act} {Q : Exit → Act → World → Prop} (w : World) (hg : o.guard = none) (it : Operand) (hop : o.op = Op.next it false) (b r n : Nat) (l : List (ByteArray × Hd)) (left : Lit → Bool) (cnt : Nat)
    (hit : a.eval it = .pointer (some ⟨r, 0, none⟩)) (h : w.ranges Try.prog 9 RH b r n (dm (mp rowV l)) left cnt)
    (hDone : cnt = 0 → (∀ kl, left kl = false) → wpList Try.prog ops Q rest (a.put o.dst (.tuple #[.bool false])) w)
    (hMore : ∀ (ky : ByteArray) (hd : Hd) (w' : World) (cnt' : Nat), left (.string (bl ky)) = true → (ky, hd) ∈ l → w'.ranges Try.prog 9 RH b r n (dm (mp rowV l)) (fun z => left z && !z.sameKey (.string (bl ky))) cnt' → cnt' < cnt →
      w.grownBy w' (some r) → w'.heap.size = w.heap.size → (Instr.entry (.pointer (some ⟨r, 0, none⟩))).run Try.prog w' = .ok (.tuple #[.string ky, rowV hd]) w' → wpList Try.prog ops Q rest (a.put o.dst (.tuple #[.bool true, .string ky, rowV hd])) w') :
    wpList Try.prog ops Q (o :: rest) a w := by
  refine wpList_next_ranges (α := ByteArray) (β := Value) w hg it hop 9 law9 RH Value.string (fun v => v) (fun key kl h => (Go.WideMaps.string_of_keyOf Try.underlying9 h).imp (fun _ e => e.1)) (fun v y h => ⟨v, rfl⟩) b r n _ left cnt hit h hDone ?_
  intro ky c kl y w1 cnt1 hky hlx hR hat hrg1 hlt hg1 hs1 hen
  obtain ⟨s', e1, e2, _⟩ := Go.WideMaps.string_of_keyOf Try.underlying9 hky
  cases e1
  subst e2
  have ey : y = (.held c, []) := by
    have : RH c = some y := hR
    unfold RH at this
    simpa using this.symm
  subst ey
  obtain ⟨hd, hmem, hc⟩ := mem_mp (mem_of_at (l := mp rowV l) hat)
  subst hc
  exact hMore ky hd w1 cnt1 hlx hmem hrg1 hlt hg1 hs1 hen
theorem sA_rows {s : MS} {hs : List (ByteArray × Hd)} (h : s.rows = mp hdR hs) : sA (fun h => retR (hdR h)) hs = sumK retR s.rows := by
  unfold sA sumK
  rw [h]; unfold mp
  rw [List.map_map]; rfl
theorem OkM.sum_le {s : MS} (h : OkM s) : sumK retR s.rows ≤ 512 := by
  have hm := may_lo h.may
  have h1 : sA retR s.rows ≤ 8 * s.rows.length := sA_le _ (fun p hp => by have := h.deep p hp; omega)
  have h2 := h.keys
  have e : sA retR s.rows = sumK retR s.rows := rfl
  omega
set_option maxRecDepth 100000 in
set_option maxHeartbeats 1600000 in
theorem retained_all (B p : Nat) (s : MS) (S : Nat → Prop) (w : World) (h : MR w B p s S) : Calls Try.prog 22 #[.pointer (some ⟨p, 0, none⟩)] w fun e w' => e = .returned (.int .i64 (sumK retR s.rows : Nat)) ∧ Below w.heap.size w w' := by
  obtain ⟨x, h, rfl⟩ := h
  have HM := Lib.hid h
  have HTOT := Lib.hid (sA_rows h.rows)
  have htl := h.ok.sum_le
  have k5 := h.c0 12
  simp only [mdC, List.getElem?_cons_succ, List.getElem?_cons_zero] at k5
  have hmap := h.map
  have HUP := Lib.hid h.up
  have HVS := Lib.hid h.ver
  clear h
  go_enter Try.func22, Try.ntmps22
  go_wp2_with (first
    | (at_range; refine wpList_range_own _ rfl _ 108 rfl 9 114 law9 Try.underlying108 _ x.b s.rows.length _ rfl hmap ?_; intro w0 hrg0 hg0 hs0)
    | go_in)
  go_frame
  have hB0 : Below w.heap.size w w0 := (Below.refl _ _).grown hg0 (Nat.le_refl _) (fun k e => by cases e)
  go_loopw [3] (fun s3 wr => ∃ (left : Lit → Bool) (cnt : Nat), wr.ranges Try.prog 9 RH x.b w.heap.size s.rows.length (DM x) left cnt ∧ s3 = .int .i64 ((sL (fun h => retR (hdR h)) x.hs left : Nat) : Int) ∧ Below w.heap.size w wr)
    (fun _ wr => wr.rangeLeft x.b w.heap.size)
  case atStart => exact ⟨_, _, hrg0, by unfold DM; rw [sL_start]; rfl, hB0⟩
  case round =>
    obtain ⟨left, cnt, hrg, rfl, hb⟩ := hrel
    clear hrg0 hg0 hs0 hB0 k5 hmap
    go_wp2_with (first
      | (at_next; refine wpList_next_h _ rfl _ rfl x.b w.heap.size s.rows.length x.hs left cnt rfl hrg ?_ ?_)
      | go_in)
    · intro _ hl0
      rw [sL_end _ hl0, HTOT.out]
      clear hl0
      go_wp2
      go_ret
      exact ⟨rfl, hb⟩
    · intro ky hd w1 cnt1 hlx hmem hrg1 hlt hg1 hs1 hen
      have hst := sL_step (fun h => retR (hdR h)) HUP.out hlx hmem
      have h1 := sL_le (fun h => retR (hdR h)) x.hs left
      have h2 := sL_le (fun h => retR (hdR h)) x.hs (fun z => left z && !z.sameKey (.string (bl ky)))
      have hb1 : Below w.heap.size w w1 := hb.grown hg1 hb.size (fun k e => by cases e; exact Nat.le_refl _)
      have hva := HVS.out _ hmem
      simp only at hva
      rw [HTOT.out] at h1 h2
      have hst2 : sL (fun h => retR (hdR h)) x.hs (fun z => left z && !z.sameKey (.string (bl ky))) = sL (fun h => retR (hdR h)) x.hs left + retR (hdR hd) := hst
      have HLN : Hid (hd.L.length = hd.n ∧ hd.n ≤ 8) := Lib.hid ⟨hva.1.len, hva.2.2.2⟩
      have wq : IntKind.i64.wrap (((sL (fun h => retR (hdR h)) x.hs left : Nat) : Int) + ((retR (hdR hd) : Nat) : Int)) = ((sL (fun h => retR (hdR h)) x.hs left : Nat) : Int) + ((retR (hdR hd) : Nat) : Int) := IntWalk.i64_in _ (by omega)
      have HST : Hid (((sL (fun h => retR (hdR h)) x.hs left : Nat) : Int) + ((retR (hdR hd) : Nat) : Int) = ((sL (fun h => retR (hdR h)) x.hs (fun z => left z && !z.sameKey (.string (bl ky))) : Nat) : Int)) := Lib.hid (by rw [hst2]; omega)
      have HRA : Hid (∀ W : World, Calls Try.prog 67 #[rowV hd] W fun e w' => e = .returned (.int .i64 (retR (hdR hd) : Nat)) ∧ Below W.heap.size W w') := Lib.hid (fun W => retained_any hd W HLN.out.1 HLN.out.2)
      have HRG := Lib.hid hrg1
      have HLT := Lib.hid hlt
      have HR0 := Lib.hid hrg
      have HB1 := Lib.hid hb1
      clear hlx hrg1 hg1 hs1 hmem hst h1 h2 hb1 hlt hb hrg hva hst2 htl HLN
      generalize retR (hdR hd) = rv at *
      generalize sL (fun h => retR (hdR h)) x.hs left = sv at *
      obtain ⟨A, n, c, L, ⟨iw, its, itm, iv⟩⟩ := hd
      unfold rowV at hen HRA ⊢
      simp only at hen HRA ⊢
      go_wp2_with fail
      refine (HRA.out _).mono ?_
      rintro e w2 ⟨rfl, hb⟩
      have HBA : Hid (Below w.heap.size w w2) := Lib.hid ((HB1.out.alloc HB1.out.size _).trans (hb.mono (Nat.le_trans HB1.out.size (by simp))))
      replace HRG := Lib.hid ((HRG.out.alloc _).kept (grown_of_below hb) (by simp) (by simp))
      clear hb hen HRA HB1
      go_wp2
      refine ⟨⟨_, cnt1, HRG.out, by rw [HST.out], HBA.out⟩, ?_⟩
      rw [HRG.out.left_eq, HR0.out.left_eq]; exact HLT.out
end Go.Proofs.Ytoinjnocopejjaa
