/- The chain of the slots given back; what is written outside a slot. -/
import Derived.Test.YtbnbhhmgfogjeaaJH
namespace Go.Proofs.Ytbnbhhmgfogjeaa
open Go.ChangeShapes Go.WideShapes Go.ChangeAt Go.RowKit Go.Maps
set_option linter.unusedVariables false
set_option linter.unusedSimpArgs false

/-- only the bytes of one slot change -/
def Out (bs bs' : List Int) (o s : Nat) : Prop := bs'.length = bs.length ∧ ∀ j, j < o ∨ o + s ≤ j → bs'.getD j 0 = bs.getD j 0
theorem getD_app (a b : List Int) (j : Nat) : (a ++ b).getD j 0 = if j < a.length then a.getD j 0 else b.getD (j - a.length) 0 := by
  rw [List.getD_eq_getElem?_getD]
  by_cases h : j < a.length
  · rw [if_pos h, List.getElem?_append_left h, List.getD_eq_getElem?_getD]
  · rw [if_neg h, List.getElem?_append_right (by omega), List.getD_eq_getElem?_getD]
theorem getD_take (a : List Int) (n j : Nat) (h : j < n) : (a.take n).getD j 0 = a.getD j 0 := by
  rw [List.getD_eq_getElem?_getD, List.getElem?_take_of_lt h, List.getD_eq_getElem?_getD]
theorem getD_drop (a : List Int) (n j : Nat) : (a.drop n).getD j 0 = a.getD (n + j) 0 := by
  rw [List.getD_eq_getElem?_getD, List.getElem?_drop, List.getD_eq_getElem?_getD]
theorem out_row {bs v : List Int} {o s : Nat} (hv : v.length ≤ s) (hn : o + s ≤ bs.length) : Out bs (bs.take o ++ v ++ bs.drop (o + v.length)) o s := by
  refine ⟨by simp; omega, fun j hj => ?_⟩
  have hl : (bs.take o).length = o := by rw [List.length_take]; omega
  rw [List.append_assoc, getD_app, hl]
  rcases hj with hj | hj
  · rw [if_pos hj, getD_take _ _ _ hj]
  · rw [if_neg (by omega), getD_app, if_neg (by omega), getD_drop]
    congr 1; omega
theorem Out.trans {a b c : List Int} {o s : Nat} (h : Out a b o s) (k : Out b c o s) : Out a c o s := ⟨k.1.trans h.1, fun j hj => (k.2 j hj).trans (h.2 j hj)⟩
theorem Out.wide {a b : List Int} {o s o2 s2 : Nat} (h : Out a b o2 s2) (h1 : o ≤ o2) (h2 : o2 + s2 ≤ o + s) : Out a b o s := ⟨h.1, fun j hj => h.2 j (by omega)⟩
theorem out_fill {bs : List Int} {o s : Nat} (hn : o + s ≤ bs.length) : Out bs (fillZ bs o s) o s := by
  have := out_row (bs := bs) (v := List.replicate s 0) (o := o) (s := s) (by simp) hn
  simpa [fillZ] using this
theorem out_put {bs : List Int} {o s : Nat} (m : Int) (hs : 2 ≤ s) : Out bs (putI bs o 2 m) o s := by
  refine ⟨putI_len o 2 bs m, fun j hj => ?_⟩
  show ((bs.set (o + 1) (m % 256)).set (o + 0) (m / 256 % 256)).getD j 0 = bs.getD j 0
  rw [List.getD_eq_getElem?_getD, List.getElem?_set_ne (by omega), List.getElem?_set_ne (by omega), List.getD_eq_getElem?_getD]
theorem out_write {bs : List Int} {o s : Nat} {S : ByteArray} (hS : S.size ≤ s) (hn : o + s ≤ bs.length) : Out bs (fillZ (putS bs o S) (o + S.size) (s - S.size)) o s := by
  have h1 := out_row (bs := bs) (v := sb S) (o := o) (s := s) (by rw [sb_len]; exact hS) hn
  rw [sb_len] at h1
  have h2 : Out (putS bs o S) (fillZ (putS bs o S) (o + S.size) (s - S.size)) (o + S.size) (s - S.size) := out_fill (by have := h1.1; unfold putS; omega)
  exact Out.trans h1 (h2.wide (by omega) (by omega))
theorem getI_out {bs bs' : List Int} {o s g : Nat} (h : Out bs bs' o s) (hg : g + 2 ≤ o ∨ o + s ≤ g) : getI bs' g 2 = getI bs g 2 := by
  show (0 * 256 + bs'.getD (g + 0) 0) * 256 + bs'.getD (g + 1) 0 = (0 * 256 + bs.getD (g + 0) 0) * 256 + bs.getD (g + 1) 0
  rw [h.2 (g + 0) (by omega), h.2 (g + 1) (by omega)]
theorem getI_put {bs : List Int} {o : Nat} {m : Int} (h0 : 0 ≤ m) (h1 : m ≤ 65535) (hn : o + 2 ≤ bs.length) : getI (putI bs o 2 m) o 2 = m := by
  show (0 * 256 + ((bs.set (o + 1) (m % 256)).set (o + 0) (m / 256 % 256)).getD (o + 0) 0) * 256 + ((bs.set (o + 1) (m % 256)).set (o + 0) (m / 256 % 256)).getD (o + 1) 0 = m
  have e1 : ((bs.set (o + 1) (m % 256)).set (o + 0) (m / 256 % 256)).getD (o + 0) 0 = m / 256 % 256 := by
    rw [List.getD_eq_getElem?_getD, List.getElem?_set_self (by simp; omega)]; rfl
  have e2 : ((bs.set (o + 1) (m % 256)).set (o + 0) (m / 256 % 256)).getD (o + 1) 0 = m % 256 := by
    rw [List.getD_eq_getElem?_getD, List.getElem?_set_ne (by omega), List.getElem?_set_self (by omega)]; rfl
  rw [e1, e2]
  omega
theorem bytes_of {bs bs' : List Int} {o s : Nat} (h : Out bs bs' o s) (hb : isBytes bs) (hin : ∀ j, o ≤ j → j < o + s → 0 ≤ bs'.getD j 0 ∧ bs'.getD j 0 < 256) : isBytes bs' := fun j hj => by
  by_cases e : j < o ∨ o + s ≤ j
  · rw [h.2 j e]; exact hb.getD j
  · exact hin j (by omega) (by omega)
theorem fill_in {bs : List Int} {o s j : Nat} (hn : o + s ≤ bs.length) (h1 : o ≤ j) (h2 : j < o + s) : (fillZ bs o s).getD j 0 = 0 := by
  have hl : (bs.take o).length = o := by rw [List.length_take]; omega
  unfold fillZ
  rw [List.append_assoc, getD_app, hl, if_neg (by omega), getD_app, List.length_replicate, if_pos (by omega), List.getD_eq_getElem?_getD, List.getElem?_replicate, if_pos (by omega)]
  rfl
theorem bytes_fill {bs : List Int} {o s : Nat} (hb : isBytes bs) (hn : o + s ≤ bs.length) : isBytes (fillZ bs o s) :=
  bytes_of (out_fill hn) hb (fun j h1 h2 => by rw [fill_in hn h1 h2]; omega)
theorem sb_in (S : ByteArray) (j : Nat) : 0 ≤ (sb S).getD j 0 ∧ (sb S).getD j 0 < 256 := by
  rw [List.getD_eq_getElem?_getD]
  unfold sb
  rw [List.getElem?_map]
  cases h : S.data.toList[j]? with
  | none => simp
  | some x =>
    have := x.toNat_lt
    simp only [Option.map_some, Option.getD_some]
    omega
theorem bytes_puts {bs : List Int} {o : Nat} {S : ByteArray} (hb : isBytes bs) (hn : o + S.size ≤ bs.length) : isBytes (putS bs o S) := by
  have h1 := out_row (bs := bs) (v := sb S) (o := o) (s := S.size) (by rw [sb_len]; exact Nat.le_refl _) hn
  rw [sb_len] at h1
  refine bytes_of h1 hb (fun j h2 h3 => ?_)
  have hl : (bs.take o).length = o := by rw [List.length_take]; omega
  unfold putS
  rw [List.append_assoc, getD_app, hl, if_neg (by omega), getD_app, sb_len, if_pos (by omega)]
  exact sb_in S _
/-- which slot was given back last, of a row of them -/
def hdF : List Nat → Int
  | [] => 65535
  | f :: _ => f
/-- each names the one ahead of it -/
def Chain (bs : List Int) : List Nat → Prop
  | [] => True
  | f :: r => getI bs f 2 = hdF r ∧ Chain bs r
theorem Chain.out {bs bs' : List Int} {o s : Nat} (h : Out bs bs' o s) : ∀ {F : List Nat}, Chain bs F → (∀ g ∈ F, g + 2 ≤ o ∨ o + s ≤ g) → Chain bs' F
  | [], _, _ => trivial
  | f :: r, hc, hg => ⟨(getI_out h (hg f (List.mem_cons_self ..))).trans hc.1, hc.2.out h (fun g hm => hg g (List.mem_cons_of_mem _ hm))⟩
theorem apart_mul {s i j : Nat} (h : i ≠ j) : i * s + s ≤ j * s ∨ j * s + s ≤ i * s := by
  rcases Nat.lt_or_gt_of_ne h with h | h
  · left
    have := Nat.mul_le_mul_right s (show i + 1 ≤ j from h)
    rw [Nat.add_mul, Nat.one_mul] at this; exact this
  · right
    have := Nat.mul_le_mul_right s (show j + 1 ≤ i from h)
    rw [Nat.add_mul, Nat.one_mul] at this; exact this
/-- m slots were used once; those of C are, those of F were given back -/
structure Inv (s m : Nat) (fresh last : Int) (C bs : List Int) (F : List Nat) : Prop where
  s2 : 2 ≤ s
  le : m * s ≤ 4096
  fr : fresh = ((m * s : Nat) : Int)
  ls : last = hdF F
  cm : ∀ x ∈ C, ∃ i, i < m ∧ x = ((i * s : Nat) : Int)
  fm : ∀ f ∈ F, ∃ i, i < m ∧ f = i * s
  nd : F.Nodup
  ap : ∀ f ∈ F, ((f : Nat) : Int) ∉ C
  ct : C.length + F.length = m
  ch : Chain bs F
  by_ : isBytes bs
  len : bs.length = 4096
theorem zsb : isBytes (List.replicate 4096 0) := fun i hi => by rw [List.getD_eq_getElem?_getD, List.getElem?_replicate]; split <;> simp
section
variable {s m : Nat} {fresh last : Int} {C bs : List Int} {F : List Nat}
theorem Inv.new (hs : 2 ≤ s) : Inv s 0 0 65535 [] (List.replicate 4096 0) [] :=
  ⟨hs, by omega, by simp, rfl, (fun _ h => by cases h), (fun _ h => by cases h), List.nodup_nil, (fun _ h => by cases h), rfl, trivial, zsb, List.length_replicate ..⟩
theorem len_put {C : List Int} {x : Int} (h : x ∉ C) : (putC C x).length = C.length + 1 := by
  unfold putC
  rw [len_ins, del_no (by cases e : isC C x with | false => rfl | true => exact absurd (is_mem.1 e) h)]
theorem mem_put {C : List Int} {x y : Int} : y ∈ putC C x ↔ y = x ∨ y ∈ C := by
  unfold putC
  rw [mem_ins, mem_del]
  constructor
  · rintro (h | h)
    · exact .inl h
    · exact .inr h.1
  · rintro (h | h)
    · exact .inl h
    · by_cases e : y = x
      · exact .inl e
      · exact .inr ⟨h, e⟩
theorem Inv.room (h : Inv s m fresh last C bs F) (hm : (m + 1) * s ≤ 4096) (hF : F = []) :
    ((m * s : Nat) : Int) ∉ C ∧ Inv s (m + 1) (((m + 1) * s : Nat) : Int) 65535 (putC C ((m * s : Nat) : Int)) (fillZ bs (m * s) s) [] := by
  subst hF
  have hms : m * s + s ≤ 4096 := by rw [Nat.add_mul, Nat.one_mul] at hm; exact hm
  have hn : ((m * s : Nat) : Int) ∉ C := fun hx => by
    obtain ⟨i, hi, e⟩ := h.cm _ hx
    rcases apart_mul (s := s) (show i ≠ m from by omega) with h1 | h1 <;> (have := h.s2; omega)
  refine ⟨hn, h.s2, hm, rfl, rfl, fun x hx => ?_, (fun _ h => by cases h), List.nodup_nil, (fun _ h => by cases h), by have := h.ct; rw [len_put hn]; simp at this ⊢; omega, trivial, bytes_fill h.by_ (by rw [h.len]; omega), (out_fill (by rw [h.len]; omega)).1.trans h.len⟩
  rcases mem_put.1 hx with rfl | hx
  · exact ⟨m, by omega, rfl⟩
  · obtain ⟨i, hi, e⟩ := h.cm _ hx
    exact ⟨i, by omega, e⟩
theorem Inv.back {f : Nat} {r : List Nat} (h : Inv s m fresh last C bs (f :: r)) :
    f + s ≤ 4096 ∧ ((f : Nat) : Int) ∉ C ∧ Inv s m fresh (getI bs f 2) (putC C (f : Int)) (fillZ bs f s) r := by
  obtain ⟨j, hj, ej⟩ := h.fm f (List.mem_cons_self ..)
  have hfs : f + s ≤ 4096 := by
    have := Nat.mul_le_mul_right s (show j + 1 ≤ m from hj)
    rw [Nat.add_mul, Nat.one_mul] at this
    have := h.le; omega
  have hn := h.ap f (List.mem_cons_self ..)
  have hnr := (List.nodup_cons.1 h.nd)
  have ho : Out bs (fillZ bs f s) f s := out_fill (by rw [h.len]; exact hfs)
  refine ⟨hfs, hn, h.s2, h.le, h.fr, h.ch.1, fun x hx => ?_, fun g hg => h.fm g (List.mem_cons_of_mem _ hg), hnr.2, fun g hg hc => ?_, by have := h.ct; rw [len_put hn]; simp at this ⊢; omega, h.ch.2.out ho (fun g hg => ?_), bytes_fill h.by_ (by rw [h.len]; exact hfs), ho.1.trans h.len⟩
  · rcases mem_put.1 hx with rfl | hx
    · exact ⟨j, hj, by rw [ej]⟩
    · exact h.cm _ hx
  · rcases mem_put.1 hc with e | e
    · exact hnr.1 (by have : g = f := by omega
                      rw [← this]; exact hg)
    · exact h.ap g (List.mem_cons_of_mem _ hg) e
  · obtain ⟨i, hi, ei⟩ := h.fm g (List.mem_cons_of_mem _ hg)
    have hij : i ≠ j := fun e => hnr.1 (by rw [ej, ← e, ← ei]; exact hg)
    have := h.s2
    rcases apart_mul (s := s) hij with h1 | h1 <;> omega
theorem hdF_rg (h : Inv s m fresh last C bs F) : 0 ≤ last ∧ last ≤ 65535 := by
  rw [h.ls]
  cases F with
  | nil => exact ⟨by decide, by decide⟩
  | cons f r =>
    obtain ⟨j, hj, ej⟩ := h.fm f (List.mem_cons_self ..)
    have := Nat.mul_le_mul_right s (show j ≤ m from by omega)
    have := h.le
    show 0 ≤ ((f : Nat) : Int) ∧ ((f : Nat) : Int) ≤ 65535
    omega
theorem Inv.at_ (h : Inv s m fresh last C bs F) {x : Int} (hx : x ∈ C) : ∃ o : Nat, x = (o : Int) ∧ o + s ≤ 4096 ∧ o % s = 0 ∧ ∀ g ∈ F, g + s ≤ o ∨ o + s ≤ g := by
  obtain ⟨i, hi, e⟩ := h.cm x hx
  have := Nat.mul_le_mul_right s (show i + 1 ≤ m from hi)
  rw [Nat.add_mul, Nat.one_mul] at this
  have := h.le
  refine ⟨i * s, e, by omega, Nat.mul_mod_left i s, fun g hg => ?_⟩
  obtain ⟨j, hj, ej⟩ := h.fm g hg
  rw [ej]
  refine apart_mul (fun e2 => h.ap g hg ?_)
  rw [ej, e2, ← e]; exact hx
theorem Inv.wrote (h : Inv s m fresh last C bs F) {o : Nat} (hx : (o : Int) ∈ C) {S : ByteArray} (hS : S.size ≤ s) : Inv s m fresh last C (fillZ (putS bs o S) (o + S.size) (s - S.size)) F := by
  obtain ⟨o', e, ho, _, hg⟩ := h.at_ hx
  obtain rfl : o = o' := by omega
  have hw : Out bs (fillZ (putS bs o S) (o + S.size) (s - S.size)) o s := out_write hS (by rw [h.len]; exact ho)
  have hp : (putS bs o S).length = 4096 := by
    have := (out_row (bs := bs) (v := sb S) (o := o) (s := s) (by rw [sb_len]; exact hS) (by rw [h.len]; exact ho)).1
    rw [sb_len] at this
    exact this.trans h.len
  refine ⟨h.s2, h.le, h.fr, h.ls, h.cm, h.fm, h.nd, h.ap, h.ct, h.ch.out hw (fun g hm => ?_), bytes_fill (bytes_puts h.by_ (by rw [h.len]; omega)) (by rw [hp]; omega), hw.1.trans h.len⟩
  have := hg g hm
  have := h.s2
  omega
theorem len_del {C : List Int} {x : Int} (hu : C.Pairwise (fun p q => p < q)) (h : x ∈ C) : (delC C x).length + 1 = C.length := by
  induction C with
  | nil => cases h
  | cons y r ih =>
    unfold delC at ih ⊢
    have hp := List.pairwise_cons.1 hu
    by_cases e : y = x
    · subst e
      rw [List.filter_cons_of_neg (by simp), List.filter_eq_self.2 (fun p hp2 => decide_eq_true (by have := hp.1 p hp2; omega))]
      rfl
    · rw [List.filter_cons_of_pos (by simpa using e)]
      have := ih hp.2 (by
        rcases List.mem_cons.1 h with h | h
        · exact absurd h.symm e
        · exact h)
      rw [List.length_cons, List.length_cons]; omega
theorem Inv.freed (h : Inv s m fresh last C bs F) (hu : C.Pairwise (fun p q => p < q)) {o : Nat} (hx : (o : Int) ∈ C) : Inv s m fresh (o : Int) (delC C o) (putI bs o 2 last) (o :: F) := by
  obtain ⟨o', e, ho, _, hg⟩ := h.at_ hx
  obtain rfl : o = o' := by omega
  have hs := h.s2
  have hw : Out bs (putI bs o 2 last) o s := out_put last hs
  obtain ⟨l0, l1⟩ := hdF_rg h
  refine ⟨hs, h.le, h.fr, rfl, fun x hm => h.cm x (mem_del.1 hm).1, fun g hm => ?_, List.nodup_cons.2 ⟨fun hm => h.ap o hm hx, h.nd⟩, fun g hm hc => ?_, by have := h.ct; have := len_del hu hx; simp; omega, ⟨(getI_put l0 l1 (by rw [h.len]; omega)).trans h.ls, h.ch.out hw (fun g hm => by have := hg g hm; omega)⟩, h.by_.putI 2 _ _, hw.1.trans h.len⟩
  · rcases List.mem_cons.1 hm with rfl | hm
    · obtain ⟨i, hi, e⟩ := h.cm _ hx
      exact ⟨i, hi, by omega⟩
    · exact h.fm g hm
  · have := mem_del.1 hc
    rcases List.mem_cons.1 hm with rfl | hm
    · exact this.2 rfl
    · exact h.ap g hm this.1
end
end Go.Proofs.Ytbnbhhmgfogjeaa
