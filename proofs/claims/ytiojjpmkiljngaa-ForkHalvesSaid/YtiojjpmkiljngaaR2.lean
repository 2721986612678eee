/-
What Split tells has together what the node had, in its row: keys below up in low, others in high; a key's kid is the one that it was; low is not without keys, nor is a leaf's high. For every node and every key.
-/
import Derived.Test.YtiojjpmkiljngaaRA
import Derived.Test.YtiojjpmkiljngaaRB
import Derived.Test.YtiojjpmkiljngaaRC
import Derived.Test.YtiojjpmkiljngaaRD
import Derived.Test.YtiojjpmkiljngaaG
namespace Go.Proofs.Ytiojjpmkiljngaa.forkHalves
open Go.ChangeShapes Go.WideShapes Go.ChangeAt Go.RowKit Go.ChangeMaps
set_option linter.unusedVariables false
set_option linter.unusedSimpArgs false

theorem own : ownKnob Try.prog.godebug = none := by kernel_rfl
theorem laidOut : laidOutB Try.prog = true := by kernel_rfl

set_option maxRecDepth 100000 in
set_option maxHeartbeats 4000000 in
theorem w_large (lf : Bool) (A B C : Option Addr) (n c m d k e : Nat) (xs : List ByteArray) (ks rs : List Int) (key : ByteArray) (w : World) (hI : NdIn w A B C n c m d k e xs ks rs) (hL : largeB xs m k = true) : Calls Try.prog 7 #[.agg #[.bool lf, .slice A n c, .slice B m d, .slice C k e], .string key] w (fun x w' => x = .returned (.bool true) ∧ Below w.heap.size w w') := by
  have hb0 : Below w.heap.size w (w.alloc (.cells #[.bool lf, .slice A n c, .slice B m d, .slice C k e] 28)) := (Below.refl _ _).alloc (Nat.le_refl _) _
  have HB0 := Lib.hid hb0
  have N0 := Lib.hid (Blk.new w #[.bool lf, .slice A n c, .slice B m d, .slice C k e] 28)
  have HI := Lib.hid hI
  have HL := Lib.hid hL
  clear hL
  clear hb0 hI
  go_enter Try.func7, Try.ntmps7
  have cN0 := N0.out.c4
  go_wp2_with fail
  refine (large_any lf A B C n c m d k e xs _ (HI.out.K.rd.later HB0.out) (by have := HI.out.hn; omega) (by have := HI.out.hm; omega) (by have := HI.out.hk; omega) (fun s hs => by have := HI.out.hs s hs; omega)).mono ?_
  rintro x w1 ⟨rfl, hb⟩
  rw [HL.out]
  have HB1 := Lib.hid (stepB HB0.out hb)
  have N1 := Lib.hid (N0.out.later hb)
  clear hb HB0 N0 cN0
  have cN1 := N1.out.c4
  go_wp2_with fail
  refine (awake_any _).mono ?_
  rintro x w2 ⟨rfl, hb⟩
  have HB2 := Lib.hid (stepB HB1.out hb)
  have N2 := Lib.hid (N1.out.later hb)
  clear hb HB1 N1 cN1
  have cN2 := N2.out.c4
  go_wp2
  go_ret
  exact ⟨rfl, HB2.out⟩
set_option maxRecDepth 100000 in
set_option maxHeartbeats 4000000 in
theorem w_long (lf : Bool) (A B C : Option Addr) (n c m d k e : Nat) (xs : List ByteArray) (ks rs : List Int) (key : ByteArray) (w : World) (hI : NdIn w A B C n c m d k e xs ks rs) (hL : largeB xs m k = false) (hk : 3000 < key.size) : Calls Try.prog 7 #[.agg #[.bool lf, .slice A n c, .slice B m d, .slice C k e], .string key] w (fun x w' => x = .returned (.bool true) ∧ Below w.heap.size w w') := by
  have hb0 : Below w.heap.size w (w.alloc (.cells #[.bool lf, .slice A n c, .slice B m d, .slice C k e] 28)) := (Below.refl _ _).alloc (Nat.le_refl _) _
  have HB0 := Lib.hid hb0
  have N0 := Lib.hid (Blk.new w #[.bool lf, .slice A n c, .slice B m d, .slice C k e] 28)
  have HI := Lib.hid hI
  have d1 : decide ((3000 : Int) < (key.size : Int)) = true := decide_eq_true (by omega)
  clear hk
  have HL := Lib.hid hL
  clear hL
  clear hb0 hI
  go_enter Try.func7, Try.ntmps7
  have cN0 := N0.out.c4
  go_wp2_with fail
  refine (large_any lf A B C n c m d k e xs _ (HI.out.K.rd.later HB0.out) (by have := HI.out.hn; omega) (by have := HI.out.hm; omega) (by have := HI.out.hk; omega) (fun s hs => by have := HI.out.hs s hs; omega)).mono ?_
  rintro x w1 ⟨rfl, hb⟩
  rw [HL.out]
  have HB1 := Lib.hid (stepB HB0.out hb)
  have N1 := Lib.hid (N0.out.later hb)
  clear hb HB0 N0 cN0
  have cN1 := N1.out.c4
  go_wp2_with fail
  refine (awake_any _).mono ?_
  rintro x w2 ⟨rfl, hb⟩
  have HB2 := Lib.hid (stepB HB1.out hb)
  have N2 := Lib.hid (N1.out.later hb)
  clear hb HB1 N1 cN1
  have cN2 := N2.out.c4
  go_wp2
  go_ret
  exact ⟨rfl, HB2.out⟩
set_option maxRecDepth 100000 in
set_option maxHeartbeats 4000000 in
theorem w_wrong (lf : Bool) (A B C : Option Addr) (n c m d k e : Nat) (xs : List ByteArray) (ks rs : List Int) (key : ByteArray) (w : World) (hI : NdIn w A B C n c m d k e xs ks rs) (hL : largeB xs m k = false) (hk : ¬ 3000 < key.size) (hM : mayB lf xs m k = false) : Calls Try.prog 7 #[.agg #[.bool lf, .slice A n c, .slice B m d, .slice C k e], .string key] w (fun x w' => x = .returned (.bool true) ∧ Below w.heap.size w w') := by
  have hb0 : Below w.heap.size w (w.alloc (.cells #[.bool lf, .slice A n c, .slice B m d, .slice C k e] 28)) := (Below.refl _ _).alloc (Nat.le_refl _) _
  have HB0 := Lib.hid hb0
  have N0 := Lib.hid (Blk.new w #[.bool lf, .slice A n c, .slice B m d, .slice C k e] 28)
  have HI := Lib.hid hI
  have d1 : decide ((3000 : Int) < (key.size : Int)) = false := decide_eq_false (by omega)
  have HN : Hid (Nd w A B C n c m d k e xs ks rs) := ⟨hI.K, hI.D, hI.R, by have h1 := large_no hL; have h2 := wide_len xs; have h3 := hI.K.len; omega⟩
  have HM := Lib.hid hM
  clear hk hM
  have HL := Lib.hid hL
  clear hL
  clear hb0 hI
  go_enter Try.func7, Try.ntmps7
  have cN0 := N0.out.c4
  go_wp2_with fail
  refine (large_any lf A B C n c m d k e xs _ (HI.out.K.rd.later HB0.out) (by have := HI.out.hn; omega) (by have := HI.out.hm; omega) (by have := HI.out.hk; omega) (fun s hs => by have := HI.out.hs s hs; omega)).mono ?_
  rintro x w1 ⟨rfl, hb⟩
  rw [HL.out]
  have HB1 := Lib.hid (stepB HB0.out hb)
  have N1 := Lib.hid (N0.out.later hb)
  clear hb HB0 N0 cN0
  have cN1 := N1.out.c4
  go_wp2_with fail
  refine (awake_any _).mono ?_
  rintro x w2 ⟨rfl, hb⟩
  have HB2 := Lib.hid (stepB HB1.out hb)
  have N2 := Lib.hid (N1.out.later hb)
  clear hb HB1 N1 cN1
  have cN2 := N2.out.c4
  go_wp2_with fail
  refine (May_any lf A B C n c m d k e xs _ (HN.out.later HB2.out).K.rd (by have := HN.out.sz; omega) (by have := HN.out.sz; omega) (by have := HN.out.sz; omega)).mono ?_
  rintro x w3 ⟨rfl, hb⟩
  rw [HM.out]
  have HB3 := Lib.hid (stepB HB2.out hb)
  have N3 := Lib.hid (N2.out.later hb)
  clear hb HB2 N2 cN2
  have cN3 := N3.out.c4
  go_wp2_with fail
  refine (awake_any _).mono ?_
  rintro x w4 ⟨rfl, hb⟩
  have HB4 := Lib.hid (stepB HB3.out hb)
  have N4 := Lib.hid (N3.out.later hb)
  clear hb HB3 N3 cN3
  have cN4 := N4.out.c4
  go_wp2
  go_ret
  exact ⟨rfl, HB4.out⟩
set_option maxRecDepth 100000 in
set_option maxHeartbeats 4000000 in
theorem w_few (lf : Bool) (A B C : Option Addr) (n c m d k e : Nat) (xs : List ByteArray) (ks rs : List Int) (key : ByteArray) (w : World) (hI : NdIn w A B C n c m d k e xs ks rs) (hL : largeB xs m k = false) (hk : ¬ 3000 < key.size) (hM : mayB lf xs m k = true) (h3 : n < 3) : Calls Try.prog 7 #[.agg #[.bool lf, .slice A n c, .slice B m d, .slice C k e], .string key] w (fun x w' => x = .returned (.bool true) ∧ Below w.heap.size w w') := by
  have hb0 : Below w.heap.size w (w.alloc (.cells #[.bool lf, .slice A n c, .slice B m d, .slice C k e] 28)) := (Below.refl _ _).alloc (Nat.le_refl _) _
  have HB0 := Lib.hid hb0
  have N0 := Lib.hid (Blk.new w #[.bool lf, .slice A n c, .slice B m d, .slice C k e] 28)
  have HI := Lib.hid hI
  have d1 : decide ((3000 : Int) < (key.size : Int)) = false := decide_eq_false (by omega)
  have d3 : decide ((n : Int) < 3) = true := decide_eq_true (by omega)
  have HN : Hid (Nd w A B C n c m d k e xs ks rs) := ⟨hI.K, hI.D, hI.R, by have h1 := large_no hL; have h2 := wide_len xs; have h3 := hI.K.len; omega⟩
  have HM := Lib.hid hM
  clear hk hM h3
  have HL := Lib.hid hL
  clear hL
  clear hb0 hI
  go_enter Try.func7, Try.ntmps7
  have cN0 := N0.out.c4
  go_wp2_with fail
  refine (large_any lf A B C n c m d k e xs _ (HI.out.K.rd.later HB0.out) (by have := HI.out.hn; omega) (by have := HI.out.hm; omega) (by have := HI.out.hk; omega) (fun s hs => by have := HI.out.hs s hs; omega)).mono ?_
  rintro x w1 ⟨rfl, hb⟩
  rw [HL.out]
  have HB1 := Lib.hid (stepB HB0.out hb)
  have N1 := Lib.hid (N0.out.later hb)
  clear hb HB0 N0 cN0
  have cN1 := N1.out.c4
  go_wp2_with fail
  refine (awake_any _).mono ?_
  rintro x w2 ⟨rfl, hb⟩
  have HB2 := Lib.hid (stepB HB1.out hb)
  have N2 := Lib.hid (N1.out.later hb)
  clear hb HB1 N1 cN1
  have cN2 := N2.out.c4
  go_wp2_with fail
  refine (May_any lf A B C n c m d k e xs _ (HN.out.later HB2.out).K.rd (by have := HN.out.sz; omega) (by have := HN.out.sz; omega) (by have := HN.out.sz; omega)).mono ?_
  rintro x w3 ⟨rfl, hb⟩
  rw [HM.out]
  have HB3 := Lib.hid (stepB HB2.out hb)
  have N3 := Lib.hid (N2.out.later hb)
  clear hb HB2 N2 cN2
  have cN3 := N3.out.c4
  go_wp2_with fail
  refine (awake_any _).mono ?_
  rintro x w4 ⟨rfl, hb⟩
  have HB4 := Lib.hid (stepB HB3.out hb)
  have N4 := Lib.hid (N3.out.later hb)
  clear hb HB3 N3 cN3
  have cN4 := N4.out.c4
  go_wp2
  go_ret
  exact ⟨rfl, HB4.out⟩
theorem walk (lf : Bool) (A B C : Option Addr) (n c m d k e : Nat) (xs : List ByteArray) (ks rs : List Int) (key : ByteArray) (w : World) (hI : NdIn w A B C n c m d k e xs ks rs) : Calls Try.prog 7 #[.agg #[.bool lf, .slice A n c, .slice B m d, .slice C k e], .string key] w (fun x w' => x = .returned (.bool true) ∧ Below w.heap.size w w') := by
  cases hL : largeB xs m k
  · by_cases hk : 3000 < key.size
    · exact w_long lf A B C n c m d k e xs ks rs key w hI hL hk
    · cases hM : mayB lf xs m k
      · exact w_wrong lf A B C n c m d k e xs ks rs key w hI hL hk hM
      · by_cases h3 : n < 3
        · exact w_few lf A B C n c m d k e xs ks rs key w hI hL hk hM h3
        · have hxl := hI.K.len
          obtain ⟨up, hup⟩ : ∃ up, xs[(n + 1) / 2]? = some up := ⟨_, List.getElem?_eq_getElem (by omega)⟩
          have ht := may_true hM
          cases lf
          · rw [if_neg (by decide)] at ht
            obtain ⟨h1, h2⟩ := ht
            have e1 := hI.R.len
            subst h2
            obtain rfl : rs = [] := List.eq_nil_of_length_eq_zero e1
            obtain rfl : m = n + 1 := by omega
            by_cases hc : co key up < 0
            · exact i_lo A B C n c d e xs ks key up w hI hL hk hM (by omega) hup hc
            · exact i_hi A B C n c d e xs ks key up w hI hL hk hM (by omega) hup hc
          · rw [if_pos rfl] at ht
            obtain ⟨h1, h2⟩ := ht
            have e1 := hI.D.len
            subst h2
            obtain rfl : ks = [] := List.eq_nil_of_length_eq_zero e1
            obtain rfl : k = n := by omega
            by_cases hc : co key up < 0
            · exact l_lo A B C k c d e xs rs key up w hI hL hk hM (by omega) hup hc
            · exact l_hi A B C k c d e xs rs key up w hI hL hk hM (by omega) hup hc
  · exact w_large lf A B C n c m d k e xs ks rs key w hI hL


set_option maxRecDepth 100000 in
theorem lifted (os : Os) (started : os.Started) (H : Type) (enc : TypeId × Value → H) :
    ReturnsInHanded {} Try.checked os 7 .any (Rows.forkHalvesSpec.pre6 enc Try.prog Try.f7 Rows.forkHalvesRow.domain false) (Rows.forkHalvesSpec.post enc Try.prog Try.f7 false true false false) := by
  refine returnsInHanded_of_change_sized (C := Try.checked) own started (by kernel_rfl) Try.func7
    (ChangeSpec.witness6 (enc := enc) (C := Try.checked) false ⟨#[], #[.agg #[.bool false, .slice none 0 0, .slice none 0 0, .slice none 0 0], .string ⟨#[]⟩], []⟩ 8 (by kernel_rfl) (by kernel_rfl) (by kernel_rfl) (by kernel_rfl)) ?_
  intro W base args ds gs before hval0 hW _ hsz _
  have hval : ∀ (j : Nat) t v, Try.f7.params[j]? = some t → args[j]? = some v → Value.okWide Try.prog W .any base t v := hval0
  have hW' := hW
  obtain ⟨p, q, hA0, hV, hbef, _, _⟩ := hW
  have hA : DataW.TrodAll enc Try.prog W 0 (fun _ => true) true Try.f7.params.toList args.toList ds p := hA0
  rw [Try.params7] at hA hval
  obtain ⟨v0, vs0, d0, ds0, p0, q0, hargs, rfl, rfl, h0, r0⟩ := trodAll_cons hA
  obtain ⟨v1, vs1, d1, ds1, p1, q1, rfl, rfl, rfl, h1, r1⟩ := trodAll_cons r0
  obtain ⟨rfl, rfl, rfl⟩ := trodAll_nil r1
  obtain rfl : args = #[v0, v1] := by cases args; simp_all
  obtain ⟨rfl, rfl⟩ := trodVars_none hV
  obtain ⟨lf0, A0, B0, C0, n0, c0, m0, d0_, k0, e0, xs0, ks0, rs0, rfl, nn0⟩ := open_node (hval 0 28 v0 rfl rfl) h0 (weight_at (ts := Try.f7.params.toList) hsz (j := 0) (by rw [Try.params7]; rfl) rfl)
  obtain ⟨s1, rfl, _, _, w1⟩ := open_string Try.underlying9 (hval 1 9 v1 rfl rfl) h1
  refine (walk lf0 A0 B0 C0 n0 c0 m0 d0_ k0 e0 xs0 ks0 rs0 s1 W nn0).mono fun e W' ⟨he, hb⟩ => ?_
  subst he
  exact ⟨_, rfl, law_post laidOut (of_decide_eq_true (by kernel_rfl)) rfl Try.underlying4 rfl rfl hW' hb⟩

theorem over : Rows.forkHalvesRow.holds Try.pinned (OpenSpec.ofChange Rows.forkHalvesSpec) :=
  OpenClaim.holds_of_wide 7 Try.f7 rfl rfl rfl rfl rfl rfl rfl ⟨rfl, rfl, rfl, rfl, rfl⟩ rfl rfl rfl rfl rfl (by kernel_rfl) Try.func7 (by kernel_rfl)
    (of_decide_eq_true (by kernel_rfl)) (by unfold Func.isWrapper; first | (rw [if_pos (by decide +kernel)]; kernel_rfl) | (rw [if_neg (by decide +kernel)]; exact ⟨rfl, rfl⟩))
    (fun os started H enc _ => lifted os started H enc)

end Go.Proofs.Ytiojjpmkiljngaa.forkHalves
namespace Go.Proofs.Ytiojjpmkiljngaa
theorem forkHalves_holds : Rows.ForkHalvesSaid := forkHalves.over
end Go.Proofs.Ytiojjpmkiljngaa
