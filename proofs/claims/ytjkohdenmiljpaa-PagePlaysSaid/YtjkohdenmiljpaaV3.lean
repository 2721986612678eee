/- What is given back last is told first; the slots of a new page. -/
import Derived.Test.YtjkohdenmiljpaaV2
namespace Go.Proofs.Ytjkohdenmiljpaa
open Go.ChangeShapes Go.WideShapes Go.ChangeAt Go.RowKit Go.Maps
set_option linter.unusedVariables false
set_option linter.unusedSimpArgs false

theorem pg_free_to (B p b s m : Nat) (C bs : List Int) (F : List Nat) (x : Int) (w : World) (h : Pg w B p b s m C bs F) (hx : x ∈ C) : Calls Try.prog 12 #[.pointer (some ⟨p, 0, none⟩), .int .u16 x] w fun e w' => e = .returned (.int .i64 0) ∧ (∃ bs', Pg w' B p b s m (delC C x) bs' (x.toNat :: F)) ∧ Fr w w' p b := by
  obtain ⟨o, rfl, ho, _, _⟩ := h.inv.at_ hx
  refine (free_of B p b s o ((m * s : Nat) : Int) (hdF F) C bs w h.at_ h.inv.s2 ho (hdF_rg h.inv).1 (is_mem.2 hx)).mono ?_
  rintro e w' ⟨rfl, h1, h2⟩
  exact ⟨rfl, ⟨_, Pg.of h1 (h.inv.freed h.at_.ok.up hx)⟩, h2⟩
theorem fill_rd {bs : List Int} {o s : Nat} (h : o + s ≤ bs.length) : rdS (fillZ bs o s) o s = strOfNums (List.replicate s 0) := by
  unfold rdS fillZ
  congr 1
  have hl : (bs.take o).length = o := by rw [List.length_take]; omega
  rw [List.append_assoc]
  have h1 : ∀ (a r : List Int), a.length = o → (a ++ r).drop o = r := fun a r h => by subst h; exact List.drop_left ..
  have h2 : ∀ (a r : List Int), a.length = s → (a ++ r).take s = a := fun a r h => by subst h; exact List.take_left ..
  rw [h1 _ _ hl, h2 _ _ (by simp)]
theorem pg_back (B p b s m : Nat) (C bs : List Int) (r : List Nat) (x : Int) (hx : 0 ≤ x) (w : World) (h : Pg w B p b s m C bs (x.toNat :: r)) : Calls Try.prog 9 #[.pointer (some ⟨p, 0, none⟩)] w fun e w' => e = .returned (.tuple #[.int .u16 x, .int .i64 0]) ∧ (∃ C' bs', Pg w' B p b s m C' bs' r ∧ x ∈ C' ∧ rdS bs' x.toNat s = strOfNums (List.replicate s 0)) ∧ Fr w w' p b := by
  obtain ⟨f, rfl⟩ : ∃ f : Nat, x = (f : Int) := ⟨x.toNat, by omega⟩
  rw [Int.toNat_natCast] at h ⊢
  have hct := h.inv.ct
  have hle := h.inv.le
  have hs2 := h.inv.s2
  have hm : m ≤ 4096 / s := (Nat.le_div_iff_mul_le (by omega)).2 hle
  have hr0 : ¬ 4096 / (s : Int) - (C.length : Nat) = 0 := by rw [h.room.1]; simp at hct; omega
  obtain ⟨hfs, hn, hi⟩ := h.inv.back
  refine (alloc_of B p b s f ((m * s : Nat) : Int) (f : Int) ((m * s : Nat) : Int) (getI bs f 2) C bs w h.at_ hs2 hfs hr0 (fun W hW => next_back B p b s f ((m * s : Nat) : Int) C bs W hW h.inv.by_ hs2 hfs)).mono ?_
  rintro e w' ⟨rfl, h1, h2⟩
  exact ⟨rfl, ⟨_, _, Pg.of h1 hi, mem_put.2 (.inl rfl), fill_rd (by rw [h.inv.len]; exact hfs)⟩, h2⟩
theorem pg_fresh (B p b s m : Nat) (C bs : List Int) (w : World) (h : Pg w B p b s m C bs []) (hm : m < 4096 / s) : Calls Try.prog 9 #[.pointer (some ⟨p, 0, none⟩)] w fun e w' => e = .returned (.tuple #[.int .u16 ((m * s : Nat) : Int), .int .i64 0]) ∧ (∃ C' bs', Pg w' B p b s (m + 1) C' bs' []) ∧ Fr w w' p b := by
  have hct := h.inv.ct
  have hs2 := h.inv.s2
  have hm1 : (m + 1) * s ≤ 4096 := (Nat.le_div_iff_mul_le (by omega)).1 hm
  have hms : m * s + s ≤ 4096 := by rw [Nat.add_mul, Nat.one_mul] at hm1; exact hm1
  have hr0 : ¬ 4096 / (s : Int) - (C.length : Nat) = 0 := by rw [h.room.1]; simp at hct; omega
  have hi := (h.inv.room hm1 rfl).2
  refine (alloc_of B p b s (m * s) ((m * s : Nat) : Int) 65535 (((m + 1) * s : Nat) : Int) 65535 C bs w h.at_ hs2 hms hr0 (fun W hW => ?_)).mono ?_
  · have e := next_fresh B p b (s : Int) ((m * s : Nat) : Int) C bs W hW (by omega) (by omega) (by omega) (by omega)
    rw [show ((m * s : Nat) : Int) + (s : Int) = (((m + 1) * s : Nat) : Int) from by rw [Nat.add_mul, Nat.one_mul]; omega] at e
    exact e
  · rintro e w' ⟨rfl, h1, h2⟩
    exact ⟨rfl, ⟨_, _, Pg.of h1 hi⟩, h2⟩
/-- those given back, the last one first -/
def chF (U : List Int) (k : Nat) (F : List Nat) : List Nat := (U.take k).reverse.map Int.toNat ++ F
theorem run_min (a b m : Nat) (h : m = min a b) (W : World) : (Builtin.min_ #[3, 3] 3 #[.int .i64 (a : Int), .int .i64 (b : Int)]).run Try.prog W = .ok (.int .i64 (m : Int)) W := by
  by_cases hl : b < a
  · have e : m = b := by omega
    subst e
    clear h
    unfold Builtin.min_
    go_simp
    show Result.ok (Value.int .i64 (if (m : Int) < (a : Int) then (m : Int) else (a : Int))) W = _
    rw [if_pos (by omega)]
  · have e : m = a := by omega
    subst e
    clear h
    unfold Builtin.min_
    go_simp
    show Result.ok (Value.int .i64 (if (b : Int) < (m : Int) then (b : Int) else (m : Int))) W = _
    rw [if_neg (by omega)]
theorem chF_succ {U : List Int} {k : Nat} {F : List Nat} (h : k < U.length) : chF U (k + 1) F = (U.getD k 0).toNat :: chF U k F := by
  unfold chF
  rw [List.take_add_one, List.getElem?_eq_getElem h, List.getD_eq_getElem?_getD, List.getElem?_eq_getElem h, List.reverse_append, List.map_append]
  rfl
theorem drop_mem {U : List Int} {k : Nat} (h : k < U.length) : U.getD k 0 ∈ U.drop k := by
  rw [List.drop_eq_getElem_cons h, List.getD_eq_getElem?_getD, List.getElem?_eq_getElem h]
  exact List.mem_cons_self ..
theorem drop_sub {U : List Int} {k : Nat} (h : k < U.length) (hn : U.Nodup) {x : Int} (hx : x ∈ U.drop (k + 1)) : x ∈ U.drop k ∧ x ≠ U.getD k 0 := by
  have e := List.drop_eq_getElem_cons h
  have hn2 : (U.drop k).Nodup := hn.sublist (List.drop_sublist k U)
  rw [e] at hn2 ⊢
  refine ⟨List.mem_cons_of_mem _ hx, fun e2 => ?_⟩
  rw [List.getD_eq_getElem?_getD, List.getElem?_eq_getElem h] at e2
  exact (List.nodup_cons.1 hn2).1 (by rw [← show x = U[k] from e2]; exact hx)
end Go.Proofs.Ytjkohdenmiljpaa
