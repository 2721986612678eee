/- The document's page in lists, beside a page's state. -/
import Derived.Test.YtbnbhhmgfogjeaaJY1
namespace Go.Proofs.Ytbnbhhmgfogjeaa
open Go.ChangeShapes Go.WideShapes Go.ChangeAt Go.RowKit Go.Maps
set_option linter.unusedVariables false
set_option linter.unusedSimpArgs false

def cntT (l : List Bool) : Nat := (l.filter id).length
theorem cnt_app (l m : List Bool) : cntT (l ++ m) = cntT l + cntT m := by unfold cntT; rw [List.filter_append, List.length_append]
theorem cnt_set : ∀ (l : List Bool) (k : Nat) (v : Bool), k < l.length → cntT (l.set k v) + (if l.getD k false then 1 else 0) = cntT l + (if v then 1 else 0)
  | [], k, v, h => by simp at h
  | x :: l, 0, v, h => by cases x <;> cases v <;> simp [cntT]
  | x :: l, k + 1, v, h => by
    have := cnt_set l k v (by simpa using h)
    cases x <;> simp [cntT] at this ⊢ <;> omega
theorem cnt_take (l : List Bool) (k : Nat) (h : k < l.length) : cntT (l.take (k + 1)) = cntT (l.take k) + (if l.getD k false then 1 else 0) := by
  rw [List.take_add_one, cnt_app, List.getElem?_eq_getElem h, List.getD_eq_getElem?_getD, List.getElem?_eq_getElem h]
  cases l[k] <;> rfl
theorem getD_setB (l : List Bool) (k j : Nat) (v : Bool) (h : k < l.length) : (l.set k v).getD j false = if k = j then v else l.getD j false := by
  rw [List.getD_eq_getElem?_getD, List.getElem?_set, List.getD_eq_getElem?_getD]
  by_cases e : k = j
  · subst e; simp [h]
  · rw [if_neg e, if_neg e]
theorem getD_setS (l : List ByteArray) (k j : Nat) (v : ByteArray) (h : k < l.length) : (l.set k v).getD j ByteArray.empty = if k = j then v else l.getD j ByteArray.empty := by
  rw [List.getD_eq_getElem?_getD, List.getElem?_set, List.getD_eq_getElem?_getD]
  by_cases e : k = j
  · subst e; simp [h]
  · rw [if_neg e, if_neg e]
theorem getD_appB (l : List Bool) (j : Nat) (v : Bool) (h : j < l.length + 1) : (l ++ [v]).getD j false = if j < l.length then l.getD j false else v := by
  rw [List.getD_eq_getElem?_getD, List.getD_eq_getElem?_getD]
  by_cases e : j < l.length
  · rw [if_pos e, List.getElem?_append_left e]
  · obtain rfl : j = l.length := by omega
    rw [if_neg e]; simp
theorem getD_appS (l : List ByteArray) (j : Nat) (v : ByteArray) (h : j < l.length + 1) : (l ++ [v]).getD j ByteArray.empty = if j < l.length then l.getD j ByteArray.empty else v := by
  rw [List.getD_eq_getElem?_getD, List.getD_eq_getElem?_getD]
  by_cases e : j < l.length
  · rw [if_pos e, List.getElem?_append_left e]
  · obtain rfl : j = l.length := by omega
    rw [if_neg e]; simp
/-- the document's page stands beside a page's state -/
structure Rel (s : Nat) (st : PS) (Bs : List ByteArray) (Us : List Bool) (Bk : List Nat) : Prop where
  um : Us.length = st.1
  bm : Bs.length = st.1
  us : ∀ k, k < st.1 → Us.getD k false = isC st.2.1 ((k * s : Nat) : Int)
  bs : ∀ k, k < st.1 → isC st.2.1 ((k * s : Nat) : Int) = true → Bs.getD k ByteArray.empty = rdS st.2.2.1 (k * s) s
  bk : Bk.reverse.map (fun k => k * s) = st.2.2.2
  kl : ∀ k ∈ Bk, k < st.1
  ct : cntT Us = st.2.1.length
abbrev InvS (s : Nat) (st : PS) : Prop := Inv s st.1 ((st.1 * s : Nat) : Int) (hdF st.2.2.2) st.2.1 st.2.2.1 st.2.2.2
theorem PgS.inv {W : World} {B p b s : Nat} {st : PS} (h : PgS W B p b s st) : InvS s st := Pg.inv h
theorem PgS.up {W : World} {B p b s : Nat} {st : PS} (h : PgS W B p b s st) : st.2.1.Pairwise (fun p q => p < q) := (Pg.at_ h).ok.up
theorem isC_no {C : List Int} {x : Int} (h : x ∉ C) : isC C x = false := by cases e : isC C x with | false => rfl | true => exact absurd (is_mem.1 e) h
def blank (s : Nat) : ByteArray := strOfNums (List.replicate s 0)
theorem rel_new {s : Nat} : Rel s (0, [], List.replicate 4096 0, []) [] [] [] := ⟨rfl, rfl, (fun k h => absurd h (Nat.not_lt_zero k)), (fun k h => absurd h (Nat.not_lt_zero k)), rfl, (fun k h => by cases h), rfl⟩
section
variable {s : Nat} {Bs : List ByteArray} {Us : List Bool}
theorem mulne {s i j : Nat} (hs : 2 ≤ s) (h : i ≠ j) : ((i * s : Nat) : Int) ≠ ((j * s : Nat) : Int) := fun e => by
  have e2 : i * s = j * s := by omega
  exact h (Nat.eq_of_mul_eq_mul_right (by omega) e2)
theorem isC_put {C : List Int} {x y : Int} : isC (putC C x) y = (decide (y = x) || isC C y) := by
  rw [Bool.eq_iff_iff, is_mem, mem_put, Bool.or_eq_true, decide_eq_true_eq, is_mem]
theorem isC_del {C : List Int} {x y : Int} : isC (delC C x) y = (isC C y && decide (y ≠ x)) := by
  rw [Bool.eq_iff_iff, is_mem, mem_del, Bool.and_eq_true, decide_eq_true_eq, is_mem]
theorem rel_fresh {m : Nat} {C bs : List Int} (h : Rel s (m, C, bs, []) Bs Us []) (hi : InvS s (m, C, bs, [])) (hm : (m + 1) * s ≤ 4096) :
    Rel s (m + 1, putC C ((m * s : Nat) : Int), fillZ bs (m * s) s, []) (Bs ++ [blank s]) (Us ++ [true]) [] := by
  have hs : 2 ≤ s := Inv.s2 hi
  have hl : bs.length = 4096 := Inv.len hi
  have hms : m * s + s ≤ 4096 := by rw [Nat.add_mul, Nat.one_mul] at hm; exact hm
  have hn : ((m * s : Nat) : Int) ∉ C := (Inv.room hi hm rfl).1
  have hu : Us.length = m := h.um
  have hb : Bs.length = m := h.bm
  refine ⟨by simp [hu], by simp [hb], fun k hk => ?_, fun k hk hc => ?_, rfl, (fun k h => by cases h), ?_⟩
  · have hk : k < m + 1 := hk
    rw [getD_appB _ _ _ (by omega), isC_put]
    by_cases e : k < m
    · rw [if_pos (by omega), decide_eq_false (mulne hs (by omega)), Bool.false_or]; exact h.us k e
    · obtain rfl : k = m := by omega
      rw [if_neg (by omega), decide_eq_true rfl, Bool.true_or]
  · have hk : k < m + 1 := hk
    have hc : isC (putC C ((m * s : Nat) : Int)) ((k * s : Nat) : Int) = true := hc
    show (Bs ++ [blank s]).getD k ByteArray.empty = rdS (fillZ bs (m * s) s) (k * s) s
    rw [getD_appS _ _ _ (by omega)]
    by_cases e : k < m
    · rw [if_pos (by omega), rdS_out (out_fill (by omega)) (apart_mul (by omega))]
      refine h.bs k e ?_
      rw [isC_put, decide_eq_false (mulne hs (by omega)), Bool.false_or] at hc
      exact hc
    · obtain rfl : k = m := by omega
      rw [if_neg (by omega)]
      exact (fill_rd (by omega)).symm
  · show cntT (Us ++ [true]) = (putC C _).length
    rw [cnt_app, len_put hn, show cntT Us = C.length from h.ct]; rfl
theorem rel_back {m k : Nat} {C bs : List Int} {Bk : List Nat} {F : List Nat} (h : Rel s (m, C, bs, F) Bs Us (Bk ++ [k])) (hi : InvS s (m, C, bs, F)) :
    ∃ r, F = k * s :: r ∧ k < m ∧ Rel s (m, putC C ((k * s : Nat) : Int), fillZ bs (k * s) s, r) (Bs.set k (blank s)) (Us.set k true) Bk := by
  have hF : F = k * s :: Bk.reverse.map (fun k => k * s) := by rw [← show _ = F from h.bk]; simp
  subst hF
  have hs : 2 ≤ s := Inv.s2 hi
  have hl : bs.length = 4096 := Inv.len hi
  have hkm : k < m := h.kl k (by simp)
  obtain ⟨hfs, hn, _⟩ := Inv.back hi
  have hu : Us.length = m := h.um
  have hb : Bs.length = m := h.bm
  refine ⟨_, rfl, hkm, by simp [hu], by simp [hb], fun j hj => ?_, fun j hj hc => ?_, rfl, fun j hj => h.kl j (by simp [hj]), ?_⟩
  · have hj : j < m := hj
    rw [getD_setB _ _ _ _ (by omega), isC_put]
    by_cases e : k = j
    · subst e; rw [if_pos rfl, decide_eq_true rfl, Bool.true_or]
    · rw [if_neg e, decide_eq_false (mulne hs (by omega)), Bool.false_or]; exact h.us j hj
  · have hj : j < m := hj
    have hc : isC (putC C ((k * s : Nat) : Int)) ((j * s : Nat) : Int) = true := hc
    show (Bs.set k (blank s)).getD j ByteArray.empty = rdS (fillZ bs (k * s) s) (j * s) s
    rw [getD_setS _ _ _ _ (by omega)]
    by_cases e : k = j
    · subst e; rw [if_pos rfl]; exact (fill_rd (by omega)).symm
    · rw [if_neg e, rdS_out (out_fill (by omega)) (apart_mul (by omega))]
      refine h.bs j hj ?_
      rw [isC_put, decide_eq_false (mulne hs (by omega)), Bool.false_or] at hc
      exact hc
  · show cntT (Us.set k true) = (putC C ((k * s : Nat) : Int)).length
    have h1 := cnt_set Us k true (by omega)
    have h2 := h.us k hkm
    have h3 : isC C ((k * s : Nat) : Int) = false := isC_no hn
    rw [show (m, C, bs, k * s :: Bk.reverse.map (fun k => k * s)).2.1 = C from rfl, h3] at h2
    rw [h2] at h1
    have h4 : cntT Us = C.length := h.ct
    rw [len_put hn, ← h4]
    simp at h1
    exact h1
theorem rel_free {m k : Nat} {C bs : List Int} {Bk : List Nat} {F : List Nat} {l : Int} (h : Rel s (m, C, bs, F) Bs Us Bk) (hi : InvS s (m, C, bs, F)) (hup : C.Pairwise (fun p q => p < q)) (hk : k < m) (hx : ((k * s : Nat) : Int) ∈ C) :
    Rel s (m, delC C ((k * s : Nat) : Int), putI bs (k * s) 2 l, k * s :: F) Bs (Us.set k false) (Bk ++ [k]) := by
  have hs : 2 ≤ s := Inv.s2 hi
  have hu : Us.length = m := h.um
  refine ⟨by simp [hu], h.bm, fun j hj => ?_, fun j hj hc => ?_, ?_, fun j hj => ?_, ?_⟩
  · have hj : j < m := hj
    rw [getD_setB _ _ _ _ (by omega), isC_del]
    by_cases e : k = j
    · subst e; rw [if_pos rfl]; simp
    · rw [if_neg e, decide_eq_true (mulne hs (by omega)), Bool.and_true]; exact h.us j hj
  · have hj : j < m := hj
    have hc : isC (delC C ((k * s : Nat) : Int)) ((j * s : Nat) : Int) = true := hc
    rw [isC_del, Bool.and_eq_true] at hc
    have e : k ≠ j := fun e => by subst e; simp at hc
    show Bs.getD j ByteArray.empty = rdS (putI bs (k * s) 2 l) (j * s) s
    rw [rdS_out (out_put l hs) (apart_mul (by omega))]
    exact h.bs j hj hc.1
  · show (Bk ++ [k]).reverse.map (fun k => k * s) = k * s :: F
    rw [List.reverse_append]
    show k * s :: Bk.reverse.map (fun k => k * s) = _
    rw [show Bk.reverse.map (fun k => k * s) = F from h.bk]
  · rcases List.mem_append.1 hj with hj | hj
    · exact h.kl j hj
    · have : j = k := by simpa using hj
      rw [this]; exact hk
  · show cntT (Us.set k false) = (delC C _).length
    have h1 := cnt_set Us k false (by omega)
    have h2 := h.us k hk
    rw [show (m, C, bs, F).2.1 = C from rfl, is_mem.2 hx] at h2
    rw [h2] at h1
    have h4 : cntT Us = C.length := h.ct
    have h5 := len_del hup hx
    simp at h1
    omega
theorem write_rd {bs : List Int} {o s : Nat} {S : ByteArray} (hS : S.size ≤ s) (h : o + s ≤ bs.length) : rdS (fillZ (putS bs o S) (o + S.size) (s - S.size)) o s = S ++ strOfNums (List.replicate (s - S.size) 0) := by
  have hl : (bs.take o).length = o := by rw [List.length_take]; omega
  have hsl := sb_len S
  have h1 : (fillZ (putS bs o S) (o + S.size) (s - S.size)).drop o = sb S ++ (List.replicate (s - S.size) 0 ++ (putS bs o S).drop (o + S.size + (s - S.size))) := by
    unfold fillZ
    have ht : (putS bs o S).take (o + S.size) = bs.take o ++ sb S := by
      unfold putS
      rw [List.take_append_of_le_length (by simp [hsl]; omega)]
      exact List.take_of_length_le (by simp [hsl]; omega)
    rw [ht, List.append_assoc, List.append_assoc]
    have h2 : ∀ (a r : List Int), a.length = o → (a ++ r).drop o = r := fun a r h => by subst h; exact List.drop_left ..
    exact h2 _ _ hl
  unfold rdS
  rw [h1]
  have h3 : ∀ (a r t : List Int), a.length + r.length = s → (a ++ (r ++ t)).take s = a ++ r := fun a r t h => by
    rw [← List.append_assoc, ← h, ← List.length_append]; exact List.take_left ..
  rw [h3 _ _ _ (by rw [hsl, List.length_replicate]; omega)]
  apply ByteArray.ext
  apply Array.ext'
  rw [ByteArray.data_append, Array.toList_append]
  unfold strOfNums
  rw [List.map_append]
  show _ ++ _ = _ ++ _
  congr 1
  unfold sb
  rw [List.map_map]
  exact (List.map_congr_left (fun x _ => by simp)).trans (List.map_id _)
theorem rel_write {m k : Nat} {C bs : List Int} {Bk : List Nat} {F : List Nat} {S : ByteArray} (h : Rel s (m, C, bs, F) Bs Us Bk) (hi : InvS s (m, C, bs, F)) (hk : k < m) (hS : S.size ≤ s) (hks : k * s + s ≤ 4096) :
    Rel s (m, C, fillZ (putS bs (k * s) S) (k * s + S.size) (s - S.size), F) (Bs.set k (S ++ strOfNums (List.replicate (s - S.size) 0))) Us Bk := by
  have hs : 2 ≤ s := Inv.s2 hi
  have hl : bs.length = 4096 := Inv.len hi
  have hb : Bs.length = m := h.bm
  refine ⟨h.um, by simp [hb], h.us, fun j hj hc => ?_, h.bk, h.kl, h.ct⟩
  have hj : j < m := hj
  show (Bs.set k _).getD j ByteArray.empty = rdS (fillZ (putS bs (k * s) S) (k * s + S.size) (s - S.size)) (j * s) s
  rw [getD_setS _ _ _ _ (by omega)]
  by_cases e : k = j
  · subst e; rw [if_pos rfl]; exact (write_rd hS (by omega)).symm
  · rw [if_neg e, rdS_out (out_write hS (by omega)) (apart_mul (by omega))]
    exact h.bs j hj hc
end
end Go.Proofs.Ytbnbhhmgfogjeaa
