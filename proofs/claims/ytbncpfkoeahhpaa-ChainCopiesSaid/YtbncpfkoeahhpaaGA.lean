/- How often each slot was given, as a map of places reads: a place is a number, page and offset. -/
import Derived.Test.YtbncpfkoeahhpaaSl
import Derived.Maps.OwnOps
import Derived.Maps.OwnSet
import Derived.Maps.RangeWalk
import Derived.Maps.Views
import Derived.DeepKeys4
import Derived.ChangeKeys
namespace Go.Proofs.Ytbncpfkoeahhpaa.gn
open Go.ChangeShapes Go.WideShapes Go.ChangeAt Go.RowKit Go.Maps
set_option linter.unusedVariables false
set_option linter.unusedSimpArgs false

abbrev DU := DataW Unit
/-- a name, as a number; who holds it -/
abbrev Ct := Int × Int
/-- the numbers that are names -/
def rg (z : Int) : Prop := 0 ≤ z ∧ z < 4294967296
def nmv (z : Int) : Value := .agg #[.int .u16 (z / 65536), .int .u16 (z % 65536)]
def kb (z : Int) : List UInt8 := keyBytes [.int .u16 (z / 65536), .int .u16 (z % 65536)]
theorem bb_app : ∀ (r s : List UInt8) (x y : UInt8), r.length = s.length → bytesBefore (r ++ [x]) (s ++ [y]) = (bytesBefore r s || (r == s && decide (x < y)))
  | [], [], x, y, _ => by simp [bytesBefore]
  | [], _ :: _, _, _, h => by simp at h
  | _ :: _, [], _, _, h => by simp at h
  | a :: r, b :: s, x, y, h => by
    have ih := bb_app r s x y (by simpa using h)
    simp only [List.cons_append, bytesBefore, ih]
    by_cases e : a = b
    · subst e
      have : (a :: r == a :: s) = (r == s) := by simp
      rw [this]
      simp
    · have : (a :: r == b :: s) = false := by simp [e]
      rw [this, show (a == b) = false from by simp [e]]
      simp
theorem be_succ (w n : Nat) : bytesBE (w + 1) n = bytesBE w (n / 256) ++ [UInt8.ofNat (n % 256)] := by
  unfold bytesBE
  rw [show bytesLE (w + 1) n = UInt8.ofNat (n % 256) :: bytesLE w (n / 256) from rfl]
  simp
theorem be_len (w n : Nat) : (bytesBE w n).length = w := length_bytesBE w n
theorem be_before : ∀ (w a b : Nat), a < 256 ^ w → b < 256 ^ w → bytesBefore (bytesBE w a) (bytesBE w b) = decide (a < b)
  | 0, a, b, ha, hb => by
    have h1 : a = 0 := by simpa using ha
    have h2 : b = 0 := by simpa using hb
    subst h1 h2; rfl
  | w + 1, a, b, ha, hb => by
    have ha' : a / 256 < 256 ^ w := by rw [Nat.pow_succ] at ha; omega
    have hb' : b / 256 < 256 ^ w := by rw [Nat.pow_succ] at hb; omega
    rw [be_succ, be_succ, bb_app _ _ _ _ (by rw [be_len, be_len]), be_before w _ _ ha' hb']
    have hx : (bytesBE w (a / 256) == bytesBE w (b / 256)) = decide (a / 256 = b / 256) := by
      by_cases e : a / 256 = b / 256
      · rw [e]; simp
      · rw [decide_eq_false e, beq_eq_false_iff_ne]
        exact fun h => e (bytesBE_inj ha' hb' h)
    have hy : decide (UInt8.ofNat (a % 256) < UInt8.ofNat (b % 256)) = decide (a % 256 < b % 256) := by
      rw [decide_eq_decide, UInt8.lt_iff_toNat_lt, UInt8.toNat_ofNat', UInt8.toNat_ofNat']
      omega
    rw [hx, hy, ← Bool.decide_and, ← Bool.decide_or, decide_eq_decide]
    omega
theorem kb_eq {z : Int} (h : rg z) : kb z = bytesBE 4 z.toNat := by
  obtain ⟨h0, h1⟩ := h
  have e1 : ((z / 65536) % 2 ^ 16).toNat = z.toNat / 65536 := by omega
  have e2 : ((z % 65536) % 2 ^ 16).toNat = z.toNat % 65536 := by omega
  show bytesBE 2 ((z / 65536) % 2 ^ 16).toNat ++ (bytesBE 2 ((z % 65536) % 2 ^ 16).toNat ++ []) = _
  rw [e1, e2, List.append_nil]
  have step : ∀ (w a : Nat), a < 256 ^ (w + 2) → bytesBE 2 (a / 256 ^ w) ++ bytesBE w (a % 256 ^ w) = bytesBE (w + 2) a := by
    intro w
    induction w with
    | zero => intro a ha; simp [Nat.mod_one]; rfl
    | succ w ih =>
      intro a ha
      rw [be_succ w (a % 256 ^ (w + 1)), show w + 1 + 2 = (w + 2) + 1 from rfl, be_succ (w + 2) a, ← List.append_assoc]
      have ha2 : a / 256 < 256 ^ (w + 2) := by rw [show w + 1 + 2 = (w + 2) + 1 from rfl, Nat.pow_succ] at ha; omega
      have q1 : a / 256 ^ (w + 1) = a / 256 / 256 ^ w := by rw [Nat.pow_succ, Nat.mul_comm, Nat.div_div_eq_div_mul]
      have q2 : a % 256 ^ (w + 1) / 256 = a / 256 % 256 ^ w := by
        rw [Nat.pow_succ, Nat.mul_comm, Nat.mod_mul_right_div_self]
      have q3 : a % 256 ^ (w + 1) % 256 = a % 256 := by rw [Nat.pow_succ]; exact Nat.mod_mul_left_mod a _ 256
      rw [q1, q2, q3, ih _ ha2]
  have := step 2 z.toNat (by omega)
  simpa using this
theorem kb_inj {a b : Int} (ha : rg a) (hb : rg b) (h : kb a = kb b) : a = b := by
  rw [kb_eq ha, kb_eq hb] at h
  have h1 := ha.1; have h2 := ha.2; have h3 := hb.1; have h4 := hb.2
  have := bytesBE_inj (w := 4) (a := a.toNat) (b := b.toNat) (by omega) (by omega) h
  omega
theorem kb_before {a b : Int} (ha : rg a) (hb : rg b) : bytesBefore (kb a) (kb b) = decide (a < b) := by
  have h1 := ha.1; have h2 := ha.2; have h3 := hb.1; have h4 := hb.2
  rw [kb_eq ha, kb_eq hb, be_before 4 _ _ (by omega) (by omega), decide_eq_decide]
  omega
abbrev kl (z : Int) : Lit := .string (kb z)
def enc1 (p : Ct) : Lit × DU := (kl p.1, .lit (.int .u32 p.2))
def dm (C : List Ct) : DU := .map (C.map enc1)
/-- who holds one (0: nobody), and whether it is held -/
def ofC : List Ct → Int → Int
  | [], _ => 0
  | p :: C, t => if p.1 = t then p.2 else ofC C t
def isC (C : List Ct) (t : Int) : Bool := C.any fun p => decide (p.1 = t)
def delC (C : List Ct) (t : Int) : List Ct := C.filter fun p => decide (p.1 ≠ t)
def insC (x : Ct) : List Ct → List Ct
  | [] => [x]
  | y :: r => if x.1 < y.1 then x :: y :: r else y :: insC x r
def putC (C : List Ct) (t n : Int) : List Ct := insC (t, n) (delC C t)
/-- names all -/
def Rg (C : List Ct) : Prop := ∀ p ∈ C, rg p.1
theorem same_kl {a b : Int} (ha : rg a) (hb : rg b) : (kl a).sameKey (kl b) = decide (a = b) := by
  show (kb a == kb b) = _
  by_cases e : a = b
  · rw [e]; simp
  · rw [decide_eq_false e, beq_eq_false_iff_ne]; exact fun h => e (kb_inj ha hb h)
theorem Rg.tail {p : Ct} {C : List Ct} (h : Rg (p :: C)) : Rg C := fun q hq => h q (List.mem_cons_of_mem _ hq)
theorem Rg.head {p : Ct} {C : List Ct} (h : Rg (p :: C)) : rg p.1 := h p (List.mem_cons_self ..)
theorem atKey_dm {t : Int} (ht : rg t) (zd : Int) : ∀ {C : List Ct}, Rg C → (dm C).atKey (kl t) (.lit (.int .u32 zd)) = .lit (.int .u32 (if isC C t then ofC C t else zd))
  | [], _ => rfl
  | p :: C, h => by
    have ih := atKey_dm ht zd h.tail
    unfold dm DataW.atKey at ih ⊢
    simp only [List.map_cons, List.find?_cons, enc1, same_kl h.head ht]
    by_cases e : p.1 = t
    · rw [decide_eq_true e]; simp [isC, ofC, e]
    · rw [decide_eq_false e]
      have e1 : isC (p :: C) t = isC C t := by simp [isC, e]
      have e2 : ofC (p :: C) t = ofC C t := if_neg e
      rw [e1, e2]
      exact ih
theorem of_none0 {t : Int} : ∀ {C : List Ct}, isC C t = false → ofC C t = 0
  | [], _ => rfl
  | p :: C, h => by
    simp only [isC, List.any_cons, Bool.or_eq_false_iff, decide_eq_false_iff_not] at h
    unfold ofC; rw [if_neg h.1]; exact of_none0 h.2
theorem atKey_0 {t : Int} (ht : rg t) {C : List Ct} (h : Rg C) : (dm C).atKey (kl t) (.lit (.int .u32 0)) = .lit (.int .u32 (ofC C t)) := by
  rw [atKey_dm ht 0 h]
  by_cases e : isC C t = true
  · rw [if_pos e]
  · rw [if_neg e, of_none0 (by simpa using e)]
theorem has_dm {t : Int} (ht : rg t) : ∀ {C : List Ct}, Rg C → Maps.has (dm C) (kl t) = isC C t
  | [], _ => rfl
  | p :: C, h => by
    have ih := has_dm ht h.tail
    unfold Maps.has dm at ih ⊢
    simp only [List.map_cons, List.any_cons, enc1, same_kl h.head ht, isC] at ih ⊢
    rw [ih]
theorem del_dm {t : Int} (ht : rg t) {C : List Ct} (h : Rg C) : (dm C).del (kl t) = dm (delC C t) := by
  show DataW.map _ = DataW.map _
  congr 1
  unfold delC
  induction C with
  | nil => rfl
  | cons p C ih =>
    simp only [List.map_cons, List.filter_cons, enc1, same_kl h.head ht] at ih ⊢
    by_cases e : p.1 = t
    · simp [e]; simpa using ih h.tail
    · simp [e, enc1]; simpa using ih h.tail
theorem ins_dm {x : Ct} (hx : rg x.1) : ∀ {C : List Ct}, Rg C → DataW.insert (enc1 x) (C.map enc1) = (insC x C).map enc1
  | [], _ => rfl
  | y :: r, h => by
    have hb : Lit.before (enc1 x).1 (enc1 y).1 = decide (x.1 < y.1) := kb_before hx h.head
    simp only [List.map_cons, DataW.insert, insC, hb]
    by_cases e : x.1 < y.1
    · rw [if_pos e, if_pos (by simpa using e)]; rfl
    · rw [if_neg e, if_neg (by simpa using e), ins_dm hx h.tail]; rfl
theorem Rg.del {C : List Ct} (h : Rg C) (t : Int) : Rg (delC C t) := fun p hp => h p (List.mem_filter.1 hp).1
theorem put_dm {t : Int} (ht : rg t) {C : List Ct} (hC : Rg C) (n : Int) : (dm C).put (kl t) (.lit (.int .u32 n)) = dm (putC C t n) := by
  have h := del_dm ht hC
  unfold DataW.del dm at h
  simp only [DataW.map.injEq] at h
  unfold DataW.put dm
  simp only
  rw [h]
  unfold putC
  rw [← ins_dm (x := (t, n)) ht (hC.del t)]
  rfl
theorem mem_del {C : List Ct} {t : Int} {p : Ct} : p ∈ delC C t ↔ p ∈ C ∧ p.1 ≠ t := by unfold delC; rw [List.mem_filter]; simp
theorem mem_ins {x p : Ct} : ∀ {C : List Ct}, p ∈ insC x C ↔ p = x ∨ p ∈ C
  | [] => by simp [insC]
  | y :: r => by
    unfold insC
    split
    · simp
    · rw [List.mem_cons, mem_ins (C := r), List.mem_cons]
      constructor
      · rintro (h | h | h)
        · exact .inr (.inl h)
        · exact .inl h
        · exact .inr (.inr h)
      · rintro (h | h | h)
        · exact .inr (.inl h)
        · exact .inl h
        · exact .inr (.inr h)
theorem ins_up {x : Ct} : ∀ {C : List Ct}, C.Pairwise (fun p q => p.1 < q.1) → (∀ p ∈ C, p.1 ≠ x.1) → (insC x C).Pairwise (fun p q => p.1 < q.1)
  | [], _, _ => by simp [insC]
  | y :: r, h, hn => by
    obtain ⟨h1, h2⟩ := List.pairwise_cons.1 h
    unfold insC
    split
    · rename_i hlt
      refine List.pairwise_cons.2 ⟨fun p hp => ?_, h⟩
      rcases List.mem_cons.1 hp with rfl | hp
      · exact hlt
      · have := h1 p hp; omega
    · rename_i hlt
      refine List.pairwise_cons.2 ⟨fun p hp => ?_, ins_up h2 (fun p hp => hn p (List.mem_cons_of_mem _ hp))⟩
      rcases mem_ins.1 hp with rfl | hp
      · have := hn y (List.mem_cons_self ..); omega
      · exact h1 p hp
theorem len_ins (x : Ct) : ∀ C : List Ct, (insC x C).length = C.length + 1
  | [] => rfl
  | y :: r => by
    unfold insC
    split
    · rfl
    · simp [len_ins x r]
theorem len_del (C : List Ct) (t : Int) : (delC C t).length ≤ C.length := List.length_filter_le _ _
theorem len_put (C : List Ct) (t n : Int) : (putC C t n).length ≤ C.length + 1 := by unfold putC; rw [len_ins]; have := len_del C t; omega
/-- rising, names all, who holds them are numbers -/
structure Ok (C : List Ct) : Prop where
  up : C.Pairwise (fun p q => p.1 < q.1)
  rgs : Rg C
  wf : ∀ p ∈ C, (Lit.int .u32 p.2).wf = true
theorem Ok.nil : Ok [] := ⟨List.Pairwise.nil, (fun _ h => by cases h), (fun _ h => by cases h)⟩
theorem Ok.del {C : List Ct} (h : Ok C) (t : Int) : Ok (delC C t) := ⟨h.up.filter _, h.rgs.del t, fun p hp => h.wf p (mem_del.1 hp).1⟩
theorem Ok.put {C : List Ct} (h : Ok C) {t n : Int} (ht : rg t) (hn : (Lit.int .u32 n).wf = true) : Ok (putC C t n) := by
  refine ⟨ins_up (h.up.filter _) (fun p hp => (mem_del.1 hp).2), fun p hp => ?_, fun p hp => ?_⟩
  · rcases mem_ins.1 hp with rfl | hp
    · exact ht
    · exact h.rgs p (mem_del.1 hp).1
  · rcases mem_ins.1 hp with rfl | hp
    · exact hn
    · exact h.wf p (mem_del.1 hp).1
theorem mem_of {C : List Ct} {t : Int} : isC C t = true → (t, ofC C t) ∈ C := by
  induction C with
  | nil => intro h; cases h
  | cons p C ih =>
    intro h
    unfold ofC
    by_cases e : p.1 = t
    · rw [if_pos e, ← e]; exact List.mem_cons_self ..
    · rw [if_neg e]
      refine List.mem_cons_of_mem _ (ih ?_)
      simpa [isC, e] using h
theorem of_is : ∀ {C : List Ct} {p : Ct}, C.Pairwise (fun p q => p.1 < q.1) → p ∈ C → isC C p.1 = true ∧ ofC C p.1 = p.2
  | [], _, _, h => by cases h
  | q :: C, p, h, hp => by
    obtain ⟨h1, h2⟩ := List.pairwise_cons.1 h
    unfold ofC
    rcases List.mem_cons.1 hp with rfl | hp
    · exact ⟨by simp [isC], by rw [if_pos rfl]⟩
    · obtain ⟨e1, e2⟩ := of_is h2 hp
      rw [if_neg (by have := h1 p hp; omega)]
      exact ⟨by simp only [isC, List.any_cons] at e1 ⊢; rw [e1]; simp, e2⟩
theorem Ok.of {C : List Ct} (h : Ok C) (t : Int) : (Lit.int .u32 (ofC C t)).wf = true := by
  by_cases e : isC C t = true
  · exact h.wf _ (mem_of e)
  · rw [of_none0 (by simpa using e)]; decide
theorem mem_of_at {x c : Int} (hx : rg x) : ∀ {C : List Ct}, Rg C → (∀ zd, (dm C).atKey (kl x) zd = .lit (.int .u32 c)) → (x, c) ∈ C
  | [], _, h => by
    have := h (.lit (.bool true))
    unfold dm DataW.atKey at this
    simp at this
  | p :: C, hr, h => by
    by_cases e : p.1 = x
    · have := h (.lit (.bool true))
      unfold dm DataW.atKey at this
      simp only [List.map_cons, List.find?_cons, enc1, same_kl hr.head hx, decide_eq_true e] at this
      cases this
      subst e
      exact List.mem_cons_self ..
    · refine List.mem_cons_of_mem _ (mem_of_at hx hr.tail (fun zd => ?_))
      have := h zd
      unfold dm DataW.atKey at this ⊢
      simp only [List.map_cons, List.find?_cons, enc1, same_kl hr.head hx, decide_eq_false e] at this
      exact this
/-! ### the key's type -/
noncomputable abbrev R3 : Value → Option (DU × List MemPlace) := plainElem Try.prog 97
theorem laid_out : laidOutB Try.prog = true := by kernel_rfl
theorem law74 : Keyed Try.prog 96 := Keyed.of_law (deep_law_laid laid_out (m := 5) (by decide) (of_decide_eq_true (by kernel_rfl)) (by kernel_rfl) (by kernel_rfl))
theorem zero42 (w : World) : (zeroValue 97).run Try.prog w = .ok (.int .u32 0) w := by kernel_rfl
theorem cells74 : Try.prog.cellsOf 96 = 2 := by kernel_rfl
theorem cells41 : Try.prog.cellsOf 87 = 1 := by kernel_rfl
theorem u74 : ∃ f0 f1 : Field, Try.prog.underlying 96 = some (.struct #[f0, f1]) ∧ f0.type = 87 ∧ f1.type = 87 ∧ f0.offset = 0 ∧ f1.offset = 1 ∧ f0.name ≠ "_" ∧ f1.name ≠ "_" :=
  ⟨_, _, Try.underlying96, rfl, rfl, rfl, rfl, by decide, by decide⟩
theorem ktype74 : Try.prog.keyType 96 = true := by kernel_rfl
theorem tsize : ∃ m, Try.prog.types.size = m + 1 := ⟨Try.prog.types.size - 1, by have h : Try.prog.types.size ≠ 0 := (by decide +kernel); omega⟩
theorem wf8 {z : Int} (h : rg z) : (Lit.int .u16 (z / 65536)).wf = true := by
  obtain ⟨h0, h1⟩ := h
  simp only [Lit.wf, Bool.and_eq_true, decide_eq_true_eq]
  exact ⟨by show (0 : Int) ≤ _; omega, by show _ ≤ (65535 : Int); omega⟩
theorem wf64 {z : Int} (h : rg z) : (Lit.int .u16 (z % 65536)).wf = true := by
  obtain ⟨h0, h1⟩ := h
  simp only [Lit.wf, Bool.and_eq_true, decide_eq_true_eq]
  exact ⟨by show (0 : Int) ≤ _; omega, by show _ ≤ (65535 : Int); omega⟩
theorem key_nm {z : Int} (h : rg z) : keyOf Try.prog 96 (nmv z) = some (kl z) := by
  obtain ⟨f0, f1, hu, t0, t1, o0, o1, n0, n1⟩ := u74
  obtain ⟨m, hm⟩ := tsize
  unfold keyOf nmv
  simp only [hu]
  rw [if_pos (by simp [ktype74, Value.formed, hu, cells74]), hm]
  unfold Program.keyLits
  simp only [hu, Value.cells]
  rw [if_pos ⟨by rw [cells74]; rfl, by simp [n0, n1]⟩]
  simp [t0, t1, o0, o1, cells41, cells41, Program.keyLits, Try.underlying87, Try.underlying87, wf8 h, wf64 h, kl, kb]
theorem nmv_inj {a b : Int} (ha : rg a) (hb : rg b) (h : nmv a = nmv b) : a = b := by
  unfold nmv at h
  simp only [Value.agg.injEq, Array.mk.injEq, List.cons.injEq, Value.int.injEq, true_and, and_true] at h
  omega
section
variable {W W' : World} {B p b q : Nat} {C : List Ct}
/-- a map that has holds -/
def MapAt (W : World) (B b : Nat) (C : List Ct) : Prop := B ≤ b ∧ W.ownsMap Try.prog 96 R3 b C.length (dm C)
theorem own_tight {n : Nat} (h : W.ownsMap Try.prog 96 R3 b n (dm C)) : W.ownsMap Try.prog 96 R3 b C.length (dm C) := by
  obtain ⟨es, clock, hb, F, hs, hD⟩ := h
  refine ⟨es, clock, hb, F, ?_, hD⟩
  have e : (C.map enc1).length = ((es.toList.map (WideElems.rg Try.prog 96 R3)).foldr DataW.insert []).length := by
    unfold dm at hD
    simp only [DataW.map.injEq] at hD
    rw [hD]
  rw [length_sorted] at e
  simp at e
  omega
theorem MapAt.later (h : MapAt W B b C) (hb : Below W.heap.size W W') : MapAt W' B b C :=
  ⟨h.1, h.2.kept (row := none) ⟨hb.os, hb.tape, hb.output, hb.size, fun k hk _ => hb.block k hk⟩ (by simp)⟩
end
end Go.Proofs.Ytbncpfkoeahhpaa.gn
