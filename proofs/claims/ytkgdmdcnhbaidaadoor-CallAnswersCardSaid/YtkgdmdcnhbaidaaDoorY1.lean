/- The maths of words: what was joined is split as it was, and joined again; numerals and hex words there and back. -/
import Derived.Test.YtkgdmdcnhbaidaaDoorI
import Derived.Test.YtkgdmdcnhbaidaaDoorG
import Derived.Lib.SplitLaws
import Derived.Lib.IndexLaws
import Derived.Lib.IndexBytes
namespace Go.Proofs.YtkgdmdcnhbaidaaDoor
open Go.ChangeShapes Go.WideShapes Go.ChangeAt Go.RowKit
set_option linter.unusedVariables false
set_option linter.unusedSimpArgs false

/-- a list cut at each blank -/
def spL : List UInt8 → List (List UInt8)
  | [] => [[]]
  | c :: l => if c = 32 then [] :: spL l else match spL l with
    | [] => [[c]]
    | a :: r => (c :: a) :: r
theorem spL_ne : ∀ l, spL l ≠ []
  | [] => by simp [spL]
  | c :: l => by
    unfold spL
    split
    · simp
    · split <;> simp
theorem spL_no : ∀ {l : List UInt8}, (32 : UInt8) ∉ l → spL l = [l]
  | [], _ => rfl
  | c :: l, h => by
    have h1 : c ≠ 32 := fun e => h (e ▸ List.mem_cons_self ..)
    have h2 := spL_no (l := l) (fun e => h (List.mem_cons_of_mem _ e))
    unfold spL
    rw [if_neg h1, h2]
theorem spL_app : ∀ {a b : List UInt8}, (32 : UInt8) ∉ a → spL (a ++ 32 :: b) = a :: spL b
  | [], b, _ => by show spL (32 :: b) = _; rw [spL, if_pos rfl]
  | c :: l, b, h => by
    have h1 : c ≠ 32 := fun e => h (e ▸ List.mem_cons_self ..)
    have h2 := spL_app (a := l) (b := b) (fun e => h (List.mem_cons_of_mem _ e))
    show spL (c :: (l ++ 32 :: b)) = _
    rw [spL, if_neg h1, h2]
theorem join2 (x y : List UInt8) (r : List (List UInt8)) : Lib.join (x :: y :: r) [32] = x ++ 32 :: Lib.join (y :: r) [32] := by
  rw [Lib.join_cons, Lib.join_cons]
  unfold Lib.joinTail
  simp
theorem spL_join : ∀ (ws : List (List UInt8)), ws ≠ [] → (∀ w ∈ ws, (32 : UInt8) ∉ w) → spL (Lib.join ws [32]) = ws
  | [], h, _ => absurd rfl h
  | [x], _, h => by rw [Lib.join_one, spL_no (h x (List.mem_singleton.2 rfl))]
  | x :: y :: r, _, h => by
    rw [join2, spL_app (h x (List.mem_cons_self ..)), spL_join (y :: r) (by simp) (fun w hw => h w (List.mem_cons_of_mem _ hw))]
theorem join_cons1 (c : UInt8) (a : List UInt8) (r : List (List UInt8)) : Lib.join ((c :: a) :: r) [32] = c :: Lib.join (a :: r) [32] := by
  rw [Lib.join_cons, Lib.join_cons]; rfl
theorem join_spL : ∀ l, Lib.join (spL l) [32] = l
  | [] => by show Lib.join [[]] [32] = []; rw [Lib.join_one]
  | c :: l => by
    have ih := join_spL l
    have hn := spL_ne l
    unfold spL
    split
    · rename_i e
      obtain ⟨a, r, hr⟩ : ∃ a r, spL l = a :: r := by cases hs : spL l with | nil => exact absurd hs hn | cons a r => exact ⟨a, r, rfl⟩
      rw [hr] at ih ⊢
      rw [join2, ih, e]; rfl
    · split
      · rename_i e; exact absurd e hn
      · rename_i a r hr
        rw [hr] at ih
        rw [join_cons1, ih]
theorem spL_nsp : ∀ l, ∀ w ∈ spL l, (32 : UInt8) ∉ w
  | [], w, h => by simp [spL] at h; subst h; simp
  | c :: l, w, h => by
    have ih := spL_nsp l
    unfold spL at h
    split at h
    · rcases List.mem_cons.1 h with rfl | h
      · simp
      · exact ih w h
    · rename_i hc
      split at h
      · rename_i e; exact absurd e (spL_ne l)
      · rename_i a r hr
        rw [hr] at ih
        rcases List.mem_cons.1 h with rfl | h
        · intro e
          rcases List.mem_cons.1 e with e | e
          · exact hc e.symm
          · exact ih a (List.mem_cons_self ..) e
        · exact ih w (List.mem_cons_of_mem _ h)
theorem splitK_spL : ∀ (k : Nat) (s : List UInt8), s.count 32 = k → Lib.splitK [32] 0 k s = spL s
  | 0, s, h => by
    rw [Lib.splitK, spL_no (fun e => by have := List.count_pos_iff.2 e; omega)]
  | k + 1, s, h => by
    have hm : (32 : UInt8) ∈ s := List.count_pos_iff.1 (by omega)
    rw [Lib.splitK]
    have hi : Lib.index s [32] = Lib.indexByte s 32 := Lib.index_one s 32
    have hge := Lib.indexByte_ge s 32
    by_cases hneg : Lib.indexByte s 32 = -1
    · exfalso
      obtain ⟨j, hj⟩ := List.getElem?_of_mem hm
      exact Lib.indexByte_none hneg j hj
    · obtain ⟨o, ho⟩ : ∃ o : Nat, Lib.indexByte s 32 = (o : Int) := ⟨(Lib.indexByte s 32).toNat, by omega⟩
      obtain ⟨h1, h2⟩ := Lib.indexByte_some ho
      have hlt : o < s.length := (List.getElem?_eq_some_iff.1 h1).1
      have hno : (32 : UInt8) ∉ s.take o := fun e => by
        obtain ⟨j, hj⟩ := List.getElem?_of_mem e
        rw [List.getElem?_take] at hj
        split at hj
        · rename_i hjo; exact h2 j hjo hj
        · cases hj
      have hs : s = s.take o ++ 32 :: s.drop (o + 1) := by
        conv => lhs; rw [← List.take_append_drop o s]
        rw [List.drop_eq_getElem_cons hlt]
        have : s[o] = 32 := by rw [List.getElem?_eq_getElem hlt] at h1; exact Option.some.inj h1
        rw [this]
      have hcnt : (s.drop (o + 1)).count 32 = k := by
        have h3 := congrArg (List.count (32 : UInt8)) hs
        rw [List.count_append, List.count_cons_self, List.count_eq_zero.2 hno] at h3
        omega
      rw [if_neg (by rw [hi, ho]; simp), hi, ho]
      have e1 : ((o : Int)).toNat + 0 = o := by omega
      have e2 : ((o : Int)).toNat + ([32] : List UInt8).length = o + 1 := by simp
      rw [e1, e2, splitK_spL k _ hcnt]
      conv => rhs; rw [hs]
      rw [spL_app hno]
theorem words_data (s : ByteArray) : (wordsOf s).map (·.data.toList) = spL s.data.toList := by
  unfold wordsOf
  rw [Lib.splitB_data]
  show Lib.splitK [32] 0 (Lib.count s.data.toList [32]) _ = _
  exact splitK_spL _ _ (Lib.count_one 32 _).symm
theorem data_inj {a b : ByteArray} (h : a.data.toList = b.data.toList) : a = b := ByteArray.ext (Array.toList_inj.1 h)
theorem map_data_inj : ∀ {a b : List ByteArray}, a.map (·.data.toList) = b.map (·.data.toList) → a = b
  | [], [], _ => rfl
  | [], _ :: _, h => by simp at h
  | _ :: _, [], h => by simp at h
  | x :: l, y :: m, h => by
    simp only [List.map_cons, List.cons.injEq] at h
    rw [data_inj h.1, map_data_inj h.2]
def nsp (w : ByteArray) : Prop := (32 : UInt8) ∉ w.data.toList
theorem words_joinW {ws : List ByteArray} (h0 : ws ≠ []) (h : ∀ w ∈ ws, nsp w) : wordsOf (joinW ws) = ws := by
  refine map_data_inj ?_
  rw [words_data]
  show spL (Lib.join (ws.map (·.data.toList)) [32]) = _
  refine spL_join _ (by simpa using h0) (fun w hw => ?_)
  obtain ⟨a, ha, rfl⟩ := List.mem_map.1 hw
  exact h a ha
theorem joinW_words (s : ByteArray) : joinW (wordsOf s) = s := by
  unfold joinW
  rw [words_data, join_spL]
theorem words_nsp (s : ByteArray) : ∀ w ∈ wordsOf s, nsp w := fun w hw => spL_nsp s.data.toList w.data.toList (by rw [← words_data]; exact List.mem_map.2 ⟨w, hw, rfl⟩)
theorem words_ne (s : ByteArray) : wordsOf s ≠ [] := fun e => by
  have := words_data s
  rw [e] at this
  exact spL_ne _ this.symm
/-! numerals -/
theorem pu_app : ∀ (l m : List UInt8) (acc u : Nat), Lib.parseUint10 acc l = .ok u → Lib.parseUint10 acc (l ++ m) = Lib.parseUint10 u m
  | [], m, acc, u, h => by
    simp only [Lib.parseUint10] at h
    injection h with h
    rw [h]; rfl
  | c :: r, m, acc, u, h => by
    show Lib.parseUint10 acc (c :: (r ++ m)) = _
    simp only [Lib.parseUint10] at h ⊢
    split at h
    · split at h
      · cases h
      · split at h
        · cases h
        · rename_i h1 h2 h3
          rw [if_pos h1, if_neg h2, if_neg h3]
          exact pu_app r m _ u h
    · cases h
theorem dec_parse : ∀ (u : Nat), u < 18446744073709551616 → Lib.parseUint10 0 (Lib.decDigits u) = .ok u := by
  intro u
  induction u using Nat.strongRecOn with
  | _ u ih =>
    intro hu
    have hd : ∀ d : Nat, d < 10 → (UInt8.ofNat (48 + d)).toNat = 48 + d := fun d hd => by simp; omega
    rw [Lib.decDigits]
    split
    · rename_i h
      simp only [Lib.parseUint10]
      have := hd u h
      rw [if_pos (by omega), if_neg (by omega), if_neg (by omega), this]
      congr 1; omega
    · rename_i h
      rw [pu_app _ _ 0 (u / 10) (ih (u / 10) (by omega) (by omega))]
      simp only [Lib.parseUint10]
      have := hd (u % 10) (by omega)
      rw [if_pos (by omega), if_neg (by omega), if_neg (by omega), this]
      congr 1; omega
theorem dec_ge : ∀ (u : Nat), ∀ c ∈ Lib.decDigits u, 48 ≤ c.toNat ∧ c.toNat ≤ 57 := by
  intro u
  induction u using Nat.strongRecOn with
  | _ u ih =>
    intro c hc
    have hd : ∀ d : Nat, d < 10 → (UInt8.ofNat (48 + d)).toNat = 48 + d := fun d hd => by simp; omega
    rw [Lib.decDigits] at hc
    split at hc
    · rename_i h
      simp only [List.mem_singleton] at hc
      have := hd u h
      subst hc; omega
    · rename_i h
      rcases List.mem_append.1 hc with hc | hc
      · exact ih (u / 10) (by omega) c hc
      · simp only [List.mem_singleton] at hc
        have := hd (u % 10) (by omega)
        subst hc; omega
theorem dec_ne (u : Nat) : Lib.decDigits u ≠ [] := fun e => by
  have := congrArg List.length e
  rw [Lib.decDigits_length] at this
  have h2 := Lib.nDigits_pos u
  simp at this; omega
theorem atoi_itoa {v : Int} (h : -9223372036854775808 ≤ v ∧ v ≤ 9223372036854775807) : Lib.atoiAll (Lib.itoa v) = .ok v := by
  unfold Lib.itoa
  split
  · rename_i hv
    show (match Lib.parseMag (if (45 : UInt8).toNat = 43 ∨ (45 : UInt8).toNat = 45 then Lib.decDigits v.natAbs else _) with | .syntax => _ | .range => _ | .ok u => _) = _
    rw [if_pos (Or.inr (by decide))]
    unfold Lib.parseMag
    rw [if_neg (dec_ne _), dec_parse _ (by omega)]
    simp only
    rw [if_neg (fun e => e.1 (by decide)), if_neg (by omega), if_pos (by decide)]
    congr 1; omega
  · rename_i hv
    obtain ⟨c, r, hr⟩ : ∃ c r, Lib.decDigits v.toNat = c :: r := by cases hs : Lib.decDigits v.toNat with | nil => exact absurd hs (dec_ne _) | cons c r => exact ⟨c, r, rfl⟩
    have hc := dec_ge v.toNat c (by rw [hr]; exact List.mem_cons_self ..)
    have hp := dec_parse v.toNat (by omega)
    rw [hr] at hp
    rw [hr]
    unfold Lib.atoiAll
    simp only
    rw [if_neg (by omega)]
    unfold Lib.parseMag
    rw [if_neg (by simp), hp]
    simp only
    rw [if_neg (by omega), if_neg (fun e => by omega), if_neg (by omega)]
    congr 1; omega
theorem num_itoa {v : Int} (h : -9223372036854775808 ≤ v ∧ v ≤ 9223372036854775807) : numP (ofL (Lib.itoa v)) = some v := by
  unfold numP
  show (match Lib.atoiAll (Lib.itoa v) with | .ok v' => if Lib.itoa v' = Lib.itoa v then some v' else none | _ => none) = _
  rw [atoi_itoa h]
  simp
theorem num_back {w : ByteArray} {v : Int} (h : numP w = some v) : ofL (Lib.itoa v) = w := by
  unfold numP at h
  split at h
  · split at h
    · rename_i u hu e
      obtain rfl := Option.some.inj h
      exact data_inj e
    · cases h
  · cases h
theorem num_rg {w : ByteArray} {v : Int} (h : numP w = some v) : -9223372036854775808 ≤ v ∧ v ≤ 9223372036854775807 := by
  unfold numP at h
  split at h
  · split at h
    · rename_i u hu e
      obtain rfl := Option.some.inj h
      unfold Lib.atoiAll at hu
      split at hu
      · cases hu
      · simp only at hu
        split at hu
        · cases hu
        · cases hu
        · split at hu
          · cases hu
          · split at hu
            · cases hu
            · injection hu with hu
              split at hu <;> omega
    · cases h
  · cases h
theorem itoa_nsp (v : Int) : nsp (ofL (Lib.itoa v)) := by
  show (32 : UInt8) ∉ Lib.itoa v
  unfold Lib.itoa
  intro h
  split at h
  · rcases List.mem_cons.1 h with h | h
    · exact absurd h (by decide)
    · have := dec_ge _ _ h; simp at this
  · have := dec_ge _ _ h; simp at this
/-! hex -/
theorem dig_there : ∀ d : Fin 16, digI (digB.getD d.1 0) = (d.1 : Int) ∧ digB.getD d.1 0 ≠ 32 := by decide +kernel
theorem unhexL_hexL : ∀ l : List UInt8, unhexL (hexL l) = some l
  | [] => rfl
  | c :: l => by
    have hc : c.toNat < 256 := c.toNat_lt
    have h1 := (dig_there ⟨c.toNat / 16, by omega⟩).1
    have h2 := (dig_there ⟨c.toNat % 16, by omega⟩).1
    show unhexL (digB.getD (c.toNat / 16) 0 :: digB.getD (c.toNat % 16) 0 :: hexL l) = _
    rw [unhexL, h1, h2, if_neg (by omega), unhexL_hexL l]
    show some (UInt8.ofNat _ :: l) = _
    congr 2
    rw [show 16 * ((c.toNat / 16 : Nat) : Int).toNat + ((c.toNat % 16 : Nat) : Int).toNat = c.toNat by omega]
    simp
theorem dig_back : ∀ x : Fin 256, 0 ≤ digI (UInt8.ofNat x.1) → digB.getD (digI (UInt8.ofNat x.1)).toNat 0 = UInt8.ofNat x.1 ∧ digI (UInt8.ofNat x.1) < 16 := by decide +kernel
theorem dig_back' (c : UInt8) (h : 0 ≤ digI c) : digB.getD (digI c).toNat 0 = c ∧ digI c < 16 := by
  have := dig_back ⟨c.toNat, c.toNat_lt⟩
  simp only [UInt8.ofNat_toNat] at this
  exact this h
theorem hexL_unhexL : ∀ (l r : List UInt8), unhexL l = some r → hexL r = l
  | [], r, h => by rw [unhexL] at h; obtain rfl := Option.some.inj h; rfl
  | [_], r, h => by rw [unhexL] at h; cases h
  | a :: b :: l, r, h => by
    rw [unhexL] at h
    split at h
    · cases h
    · rename_i hd
      cases hu : unhexL l with
      | none => rw [hu] at h; cases h
      | some q =>
        rw [hu] at h
        obtain rfl := Option.some.inj h
        have ha := dig_back' a (by omega)
        have hb := dig_back' b (by omega)
        have e : (UInt8.ofNat (16 * (digI a).toNat + (digI b).toNat)).toNat = 16 * (digI a).toNat + (digI b).toNat := by
          rw [UInt8.toNat_ofNat']; omega
        show digB.getD ((UInt8.ofNat _).toNat / 16) 0 :: digB.getD ((UInt8.ofNat _).toNat % 16) 0 :: hexL q = _
        rw [e, hexL_unhexL l q hu, show (16 * (digI a).toNat + (digI b).toNat) / 16 = (digI a).toNat by omega, show (16 * (digI a).toNat + (digI b).toNat) % 16 = (digI b).toNat by omega, ha.1, hb.1]
theorem hexL_nsp : ∀ l : List UInt8, (32 : UInt8) ∉ hexL l
  | [], h => by cases h
  | c :: l, h => by
    have hc : c.toNat < 256 := c.toNat_lt
    rcases List.mem_cons.1 h with h | h
    · exact (dig_there ⟨c.toNat / 16, by omega⟩).2 h.symm
    · rcases List.mem_cons.1 h with h | h
      · exact (dig_there ⟨c.toNat % 16, by omega⟩).2 h.symm
      · exact hexL_nsp l h
theorem hexL_ne {l : List UInt8} (h : l ≠ []) : 2 ≤ (hexL l).length := by
  cases l with
  | nil => exact absurd rfl h
  | cons c l => show 2 ≤ (hexL l).length + 1 + 1; omega
theorem size_nil {s : ByteArray} (h : s.size = 0) : s = emp := data_inj (by have : s.data.toList.length = 0 := h; rw [List.length_eq_zero_iff.1 this]; rfl)
theorem unhex_hex (s : ByteArray) : unhexP (hexP s) = some s := by
  unfold hexP
  split
  · rename_i h
    rw [size_nil h]; rfl
  · rename_i h
    have hl : s.data.toList ≠ [] := fun e => h (by show s.data.size = 0; rw [← Array.length_toList, e]; rfl)
    have h2 := hexL_ne hl
    have hsz : (ofL (hexL s.data.toList)).size = (hexL s.data.toList).length := rfl
    unfold unhexP
    rw [if_neg (fun e => by have := congrArg ByteArray.size e; rw [hsz] at this; have h3 : (hexL s.data.toList).length = 1 := this; omega), if_neg (by omega)]
    show (unhexL (hexL s.data.toList)).map ofL = _
    rw [unhexL_hexL]
    rfl
theorem hex_unhex {w s : ByteArray} (h : unhexP w = some s) : hexP s = w := by
  unfold unhexP at h
  split at h
  · rename_i e
    obtain rfl := Option.some.inj h
    rw [e]; rfl
  · split at h
    · cases h
    · rename_i h1 h2
      cases hu : unhexL w.data.toList with
      | none => rw [hu] at h; cases h
      | some q =>
        rw [hu] at h
        obtain rfl := Option.some.inj h
        have hh := hexL_unhexL _ _ hu
        unfold hexP
        rw [if_neg (fun e => h2 (by
          have hq : q = [] := List.length_eq_zero_iff.1 (show q.length = 0 from e)
          rw [hq] at hh
          show w.data.size = 0
          rw [← Array.length_toList, ← hh]; rfl))]
        exact data_inj hh
theorem hex_nsp (s : ByteArray) : nsp (hexP s) := by
  unfold hexP
  split
  · show (32 : UInt8) ∉ [45]
    decide
  · exact hexL_nsp _
end Go.Proofs.YtkgdmdcnhbaidaaDoor
