/- NB, NC in one. -/
import Derived.Test.YtoinjnocopejjaaNA
import Derived.Test.YtoinjnocopejjaaS
import Derived.Test.YtoinjnocopejjaaTB
import Derived.Shelf.AbstractIn
import Derived.Sort.KeysCollected
import Derived.Sort.OwnSorted
/- The keys, in row. -/
namespace Go.Proofs.Ytoinjnocopejjaa
open Go.ChangeShapes Go.WideShapes Go.ChangeAt Go.RowKit Go.Maps Go.Sort Go.Lib Go.Shelf
set_option linter.unusedVariables false
set_option linter.unusedSimpArgs false
theorem cb_before : ∀ (a b : List UInt8), decide (Lib.compareBytes a b < 0) = bytesBefore a b
  | [], [] => rfl
  | [], y :: b => rfl
  | x :: a, [] => rfl
  | x :: a, y :: b => by
    rw [cb_cons]
    unfold bytesBefore
    by_cases h1 : x.toNat < y.toNat
    · rw [if_pos h1]
      have h2 : x < y := UInt8.lt_iff_toNat_lt.2 h1
      simp [h2]
    · have h2 : ¬ x < y := fun e => h1 (UInt8.lt_iff_toNat_lt.1 e)
      rw [if_neg h1]
      by_cases h3 : y.toNat < x.toNat
      · rw [if_pos h3]
        have h4 : x ≠ y := fun e => by rw [e] at h3; omega
        simp [h2, h4]
      · rw [if_neg h3]
        have h4 : x = y := UInt8.toNat_inj.1 (by omega)
        rw [cb_before a b]
        simp [h2, h4]
theorem ltB (a b : List UInt8) : ltOf Lib.compareBytes a b = bytesBefore a b := cb_before a b
theorem swoB : SWO (ltOf Lib.compareBytes) where
  irrefl x := by rw [ltB]; exact WideAt.bytes_irrefl x
  trans x y z h1 h2 := by rw [ltB] at *; exact bytes_trans x y z h1 h2
  ntrans x y z h1 h2 := by
    rw [ltB] at *
    cases h : bytesBefore x z with
    | false => rfl
    | true =>
      by_cases e : x = y
      · subst e; rw [h] at h2; cases h2
      · rcases WideAt.bytes_total x y e with e1 | e1
        · rw [e1] at h1; cases h1
        · have := bytes_trans y x z e1 h; rw [this] at h2; cases h2
theorem cmpReads66 (blk off size : Nat) (w : World) : CmpReads Try.prog 66 #[] encStr Lib.compareBytes blk off size w :=
  fun m os dk _ x y => (cmp ⟨x.toArray⟩ ⟨y.toArray⟩ (sortWorld encStr w blk off m dk os)).mono (fun e w' h => ⟨by rw [h.1], 0, h.2.symm⟩)
/-- rising lists of the same elements -/
theorem sorted_eq {ss ts : List (List UInt8)} (hp : ts.Perm ss) (h1 : ts.Pairwise fun a b => bytesBefore b a = false) (h2 : ss.Pairwise fun a b => bytesBefore a b = true) : ts = ss := by
  refine List.Perm.eq_of_pairwise (le := fun a b => bytesBefore b a = false) (fun a b _ _ h3 h4 => ?_) h1 (h2.imp (fun {a b} h => ?_)) hp
  · by_cases e : a = b
    · exact e
    · rcases WideAt.bytes_total a b e with e1 | e1
      · rw [e1] at h4; cases h4
      · rw [e1] at h3; cases h3
  · cases e : bytesBefore b a with
    | false => rfl
    | true => have := bytes_trans a b a h e; rw [WideAt.bytes_irrefl] at this; cases this
def sE (k : ByteArray) : Value := .string k
theorem encStr_bl (k : ByteArray) : encStr (bl k) = sE k := by
  unfold encStr bl sE
  congr 1
theorem enc_map (ks : List ByteArray) : (ks.map bl).map encStr = ks.map sE := by
  rw [List.map_map]
  exact List.map_congr_left (fun k _ => encStr_bl k)
def KeysEnd (ks : List ByteArray) (w : World) (e : Ending) (w' : World) : Prop := ∃ v, e = .returned v ∧ Ow sE w' w.heap.size 9 v ks.length ks ∧ RowKit.Below w.heap.size w w'
theorem strKeys_dm (l : List (ByteArray × Value)) : strKeys (dm l) = (l.map (·.1)).map bl := by
  unfold strKeys dm
  simp only [List.map_map]
  rfl
theorem below_sortS {w : World} {B g n : Nat} {d : Array (List UInt8)} {os : Array Obj} (hg : g < w.heap.size) (hB : B ≤ g) : RowKit.Below B w (sortWorld encStr w g 0 n d os) := by
  have h := grownBy_sorted (w := w) (g := g) (n := n) (os := os) d
  exact (RowKit.Below.refl B w).grown h (by omega) (fun j e => by cases e; exact hB)
set_option maxRecDepth 100000 in
set_option maxHeartbeats 8000000 in
theorem sortedFunc_in (b n : Nat) (l : List (ByteArray × Value)) (hu : Up l) (hl : l.length ≤ 64) (lb : Array Value) (w : World) (hseq : SeqGives Fence.wide 2 Try.prog 94 lb encStr (fun ss => ss.Perm (strKeys (dm l))) (Maps.size (dm l)) w) :
    CallsIn Fence.wide 5 Try.prog 64 #[.func (.func 94) #[] lb, .func (.func 66) #[] #[]] w (KeysEnd (l.map (·.1)) w) := by
  have hsz : Maps.size (dm l) = l.length := size_dm l
  have cS := AnyZ.collect_in Try.collA Fence.wide 4 trivial trivial rfl (by omega) 94 lb trivial (enters_of Try.func94 (by kernel_rfl) rfl) _ _ (by rw [hsz]; unfold maxLen; omega) (by rw [hsz]; omega) w hseq
  change CallsIn _ _ Try.prog 92 _ _ _ at cS
  have hfS : Fence.wide.fn 92 := trivial
  have hfT : Fence.wide.fn 93 := trivial
  have HU := Lib.hid hu
  have HL := Lib.hid hl
  clear hu hl hsz
  refine callsIn_of_wp Try.func64 rfl trivial ?_ rfl
  simp only [Try.ntmps64, List.size_toArray, List.length_cons, List.length_nil, Nat.reduceAdd, Nat.reduceSub, Array.replicate_succ, Array.replicate_zero, List.push_toArray, List.append_toArray, List.nil_append, List.cons_append]
  gi_wp2_with (gi_at_call 92; refine cS.mono ?_; rintro e w1 ⟨v, ss, rfl, hS, hrow, hnil, hb⟩)
  have HP : Hid (ss.Perm ((l.map (·.1)).map bl)) := Lib.hid (by rw [strKeys_dm] at hS; exact hS)
  have HLN : Hid (ss.length ≤ 64) := Lib.hid (by have := HP.out.length_eq; rw [List.length_map, List.length_map] at this; have := HL.out; omega)
  have HBB := Lib.hid hb
  have HUU : Hid (((l.map (·.1)).map bl).Pairwise fun a b => bytesBefore a b = true) := Lib.hid (by
    rw [List.pairwise_map, List.pairwise_map]; exact HU.out)
  clear hS hb cS hseq hfS
  rcases hrow.2 with ⟨rfl, h0⟩ | ⟨g, cap, cur, rfl, hbase, hbk, h1, h2, h3, h4⟩
  · have e0 : ss = [] := hnil.1 rfl
    subst e0
    have hn := AnyF.slices_SortFunc_none Try.sortS0 none 0 (.func (.func 66) #[] #[]) w1
    change Calls Try.prog 93 _ _ _ at hn
    have hn2 := (callsIn_wide (n := 4)).2 hn
    have HE : Hid (l = []) := Lib.hid (by
      have := HP.out.length_eq; simp at this; exact List.eq_nil_of_length_eq_zero this.symm)
    clear hrow hnil hn
    gi_wp2_with (gi_at_call 93; refine hn2.mono ?_; rintro e w2 ⟨rfl, rfl⟩)
    go_ret
    exact ⟨_, rfl, by rw [HE.out]; exact Ow.none _ _ _, HBB.out⟩
  · have hg : g < w1.heap.size := (Array.getElem?_eq_some_iff.1 hbk).1
    have hH : Holds encStr w1 g 0 ss.toArray := holds_of_block hbk (by simpa using h4)
    have hcon := Any.slices_SortFunc Try.sortS encStr (fun _ => rfl) Lib.compareBytes swoB 66 #[] g 0 cap ss.toArray w1 (enters_of Try.func66 (by kernel_rfl) rfl) (cmpReads66 g 0 _ w1).lays hH hg (by have := HLN.out; simp; omega)
    change Calls Try.prog 93 _ _ _ at hcon
    simp only [List.size_toArray] at hcon
    have hn2 := (callsIn_wide (n := 4)).2 hcon
    have HK := Lib.hid (And.intro hbase (And.intro hbk (And.intro h1 (And.intro h2 h3))))
    clear hrow hnil hcon hH hbase hbk h1 h2 h3 h4
    gi_wp2_with (gi_at_call 93; refine hn2.mono ?_; rintro e w2 ⟨rfl, d', m, os, hp, hs, rfl⟩)
    have hlen : d'.size = ss.length := by simpa using hp.1
    have hperm : d'.toList.Perm ss := by
      have h := hp.2.2
      have e1 : d'.extract 0 ss.length = d' := by rw [← hlen]; simp
      have e2 : ss.toArray.extract 0 ss.length = ss.toArray := by simp
      rw [e1, e2] at h
      simpa using h
    have hsort : d'.toList.Pairwise fun a b => bytesBefore b a = false := by
      rw [List.pairwise_iff_getElem]
      intro i j hi hj hij
      have hi' : i < d'.size := by simpa using hi
      have hj' : j < d'.size := by simpa using hj
      have h := hs i j (Nat.zero_le _) hij (by omega)
      rw [ltB, getElem!_pos d' i hi', getElem!_pos d' j hj'] at h
      simpa using h
    have e3 : d'.toList = (l.map (·.1)).map bl := sorted_eq (hperm.trans HP.out) hsort HUU.out
    have e4 : d' = ((l.map (·.1)).map bl).toArray := by rw [← e3]
    have hl3 : ((l.map (·.1)).map bl).length = ss.length := by rw [← e3, Array.length_toList, hlen]
    have hrow := ownsRow_sorted (n := m) (os := os) hl3 HK.out.1 HK.out.2.1 HK.out.2.2.1 HK.out.2.2.2.1 HK.out.2.2.2.2
    rw [enc_map] at hrow
    have hl4 : ss.length = (l.map (·.1)).length := by rw [← hl3, List.length_map]
    have HR : Hid (Ow sE (sortWorld encStr w1 g 0 m d' os) w.heap.size 9 (.slice (some ⟨g, 0, none⟩) ss.length cap) (l.map (·.1)).length (l.map (·.1))) := Lib.hid (by
      rw [e4, ← hl4]; exact hrow)
    have HB2 := Lib.hid (HBB.out.trans (below_sortS (n := m) (d := d') (os := os) hg HK.out.1))
    clear hp hs hlen hperm hsort e3 e4 hl3 hrow hl4
    generalize sortWorld encStr w1 g 0 m d' os = w3 at *
    go_ret
    exact ⟨_, rfl, HR.out, HB2.out⟩
end Go.Proofs.Ytoinjnocopejjaa

/- Keys. -/
namespace Go.Proofs.Ytoinjnocopejjaa
open Go.ChangeShapes Go.WideShapes Go.ChangeAt Go.RowKit Go.Maps Go.Shelf
set_option linter.unusedVariables false
set_option linter.unusedSimpArgs false
theorem keys_nil (w : World) : Calls Try.prog 21 #[.pointer none] w fun e w' => e = .returned (.slice none 0 0) ∧ w = w' := by
  go_enter Try.func21, Try.ntmps21
  go_wp2
  go_ret
  exact ⟨rfl, rfl⟩
set_option maxRecDepth 100000 in
set_option maxHeartbeats 8000000 in
theorem keys_any (B p : Nat) (s : MS) (S : Nat → Prop) (w : World) (h : MR w B p s S) : Calls Try.prog 21 #[.pointer (some ⟨p, 0, none⟩)] w (KeysEnd (s.rows.map (·.1)) w) := by
  obtain ⟨x, h, _⟩ := h
  refine (callsIn_wide (n := 6)).1 ?_
  have hup : Up (mp rowV x.hs) := (mp_up rowV).2 h.up
  have hlen : (mp rowV x.hs).length ≤ 64 := by
    rw [mp_len, h.len]
    have := h.ok.keys
    have := may_lo h.ok.may
    omega
  have hks : (mp rowV x.hs).map (·.1) = s.rows.map (·.1) := by
    rw [h.rows]; unfold mp; rw [List.map_map, List.map_map]; rfl
  have hown : w.ownsMap Try.prog 9 RH x.b s.rows.length (dm (mp rowV x.hs)) := h.map
  have hbl := hown.lt
  have k12 := h.c0 12
  simp only [mdC, List.getElem?_cons_succ, List.getElem?_cons_zero] at k12
  have hseq : SeqGives Fence.wide 2 Try.prog 94 #[.pointer (some ⟨w.heap.size, 0, none⟩)] encStr (fun ss => ss.Perm (strKeys (dm (mp rowV x.hs)))) (Maps.size (dm (mp rowV x.hs))) (w.alloc (.cells #[.map (some x.b)] 108)) :=
    AnyZ.keys_gives (ρ := Try.keysA_ren) { Try.keysA with } Fence.wide _ trivial rfl (by omega) w.heap.size x.b s.rows.length _ _ (by simp) (by simp) (by
      obtain ⟨es, clock, hb, Ft, hs, hD⟩ := hown
      exact ⟨es, clock, (Below.heap_alloc _ _ x.b hbl).trans hb, Ft, hs, hD⟩)
  have cK : ∀ mb W, CallsIn Fence.wide 5 Try.prog 65 #[.map mb] W fun e w' => e = .returned (.func (.func 94) #[] #[.pointer (some ⟨W.heap.size, 0, none⟩)]) ∧ w' = W.alloc (.cells #[.map mb] 108) := fun mb W => AnyZ.keys_in Try.keysA Fence.wide 5 trivial rfl mb W
  have cS := Lib.hid (sortedFunc_in x.b s.rows.length _ hup hlen _ _ hseq)
  rw [hks] at cS
  have HB : Hid (RowKit.Below w.heap.size w (w.alloc (.cells #[.map (some x.b)] 108))) := Lib.hid ((Below.refl _ _).alloc (Nat.le_refl _) _)
  have hfK : Fence.wide.fn 65 := trivial
  have hfS : Fence.wide.fn 64 := trivial
  clear hup hlen hks hown hbl hseq h
  refine callsIn_of_wp Try.func21 rfl trivial ?_ rfl
  simp only [Try.ntmps21, List.size_toArray, List.length_cons, List.length_nil, Nat.reduceAdd, Nat.reduceSub, Array.replicate_succ, Array.replicate_zero, List.push_toArray, List.append_toArray, List.nil_append, List.cons_append]
  gi_wp2_with (first
    | (gi_at_call 65; refine (cK _ _).mono ?_; rintro e w' ⟨rfl, rfl⟩)
    | (gi_at_call 64; refine cS.out.mono ?_; rintro e w' ⟨v, rfl, ho, hb⟩))
  go_ret
  exact ⟨_, rfl, Ow.base ho (by simp), HB.out.trans (hb.mono (by simp))⟩
end Go.Proofs.Ytoinjnocopejjaa
