/- Contracts of known data; the examples. -/
import Derived.Test.YtmkgipbepipjkaaDoorI
namespace Go.Proofs.YtmkgipbepipjkaaDoor
open Go.ChangeShapes Go.WideShapes Go.ChangeAt Go.RowKit
set_option linter.unusedVariables false
set_option linter.unusedSimpArgs false

def KEnd (B p : Nat) (v : Value) (M : List Wr) (lb c : Int) (w : World) (x : Ending) (w' : World) : Prop := x = .returned (.int .i64 c) ∧ ∃ v' en', WrAt w' B p v' M lb en' ∧ Fr w w' p v
section
variable {B p : Nat} {v : Value} {L M : List Wr} {la lb c : Int} {en : Nat} {w : World}
theorem begin_k (h : WrAt w B p v L la en) (hn : L.length ≤ 1000000) (hB : B ≤ w.heap.size) (hc : (L.length : Int) + 1 = c) (hM : L ++ [wz] = M) : Calls Tryd.prog 9 #[.pointer (some ⟨p, 0, none⟩)] w (KEnd B p v M la c w) := by
  refine (begin_any B p v L la en w h hn hB).mono ?_
  rintro x w' ⟨v', rfl, h2, hf⟩
  rw [hc]
  rw [hM] at h2
  exact ⟨rfl, v', en, h2, hf⟩
theorem turn_k {x : Ending} {w' : World} {i st ts : Int} (he : turnE L la i st ts = c) (hs : turnS L la i st ts = M) (ht : turnT L la i st ts = lb) (h : TurnEnd B p v L la i st ts w x w') : KEnd B p v M lb c w x w' := by
  obtain ⟨rfl, ⟨en', h2⟩, hf⟩ := h
  rw [he]
  rw [hs, ht] at h2
  exact ⟨rfl, v, en', h2, hf⟩
theorem commit_k (i ts : Int) (h : WrAt w B p v L la en) (hT : TabAt w) (hB0 : 0 < B) (hn : L.length ≤ 1000000) (he : turnE L la i 3 ts = c) (hs : turnS L la i 3 ts = M) (ht : turnT L la i 3 ts = lb) : Calls Tryd.prog 10 #[.pointer (some ⟨p, 0, none⟩), .int .i64 i, .int .i64 ts] w (KEnd B p v M lb c w) :=
  (commit_any B p v L la en i ts w h hT hB0 hn).mono fun x w' hh => turn_k he hs ht hh
theorem fall_k (i : Int) (h : WrAt w B p v L la en) (hT : TabAt w) (hB0 : 0 < B) (hn : L.length ≤ 1000000) (he : turnE L la i 2 0 = c) (hs : turnS L la i 2 0 = M) (ht : turnT L la i 2 0 = lb) : Calls Tryd.prog 11 #[.pointer (some ⟨p, 0, none⟩), .int .i64 i] w (KEnd B p v M lb c w) :=
  (fall_any B p v L la en i w h hT hB0 hn).mono fun x w' hh => turn_k he hs ht hh
theorem fallen_k (i : Int) (h : WrAt w B p v L la en) (hT : TabAt w) (hB0 : 0 < B) (hn : L.length ≤ 1000000) (he : turnE L la i 4 0 = c) (hs : turnS L la i 4 0 = M) (ht : turnT L la i 4 0 = lb) : Calls Tryd.prog 12 #[.pointer (some ⟨p, 0, none⟩), .int .i64 i] w (KEnd B p v M lb c w) :=
  (fallen_any B p v L la en i w h hT hB0 hn).mono fun x w' hh => turn_k he hs ht hh
theorem is_k (i s t : Int) {b : Bool} (h : WrAt w B p v L la en) (hn : L.length ≤ 1000000) (hb : isB (ofL L i) s t = b) : Calls Tryd.prog 13 #[.pointer (some ⟨p, 0, none⟩), .int .i64 i, .int .i64 s, .int .i64 t] w fun x w' => x = .returned (.bool b) ∧ Below w.heap.size w w' := hb ▸ is_any B p v L la en i s t w h hn
theorem high_k (h : WrAt w B p v L la en) (hn : L.length ≤ 1000000) (hc : (L.length : Int) + 1 = c) : Calls Tryd.prog 16 #[.pointer (some ⟨p, 0, none⟩)] w fun x w' => x = .returned (.int .i64 c) ∧ Below w.heap.size w w' :=
  (high_any B p v L la en w h hn).mono fun x w' hh => ⟨hc ▸ hh.1, by rw [hh.2]; exact Below.refl _ _⟩
theorem last_k (h : WrAt w B p v L la en) : Calls Tryd.prog 17 #[.pointer (some ⟨p, 0, none⟩)] w fun x w' => x = .returned (.int .i64 la) ∧ Below w.heap.size w w' :=
  (last_any B p v L la en w h).mono fun x w' hh => ⟨hh.1, by rw [hh.2]; exact Below.refl _ _⟩
theorem active_k (h : WrAt w B p v L la en) (hn : L.length ≤ 1000000) (hc : ((actL L : Nat) : Int) = c) : Calls Tryd.prog 15 #[.pointer (some ⟨p, 0, none⟩)] w fun x w' => x = .returned (.int .i64 c) ∧ Below w.heap.size w w' := hc ▸ active_any B p v L la en w h hn
theorem busy_k (xs : List Int) (n : Nat) (h : WrAt w B p v L la en) (hn : L.length ≤ 1000000) (hx : busyL L = xs) (hl : xs.length = n) : Calls Tryd.prog 14 #[.pointer (some ⟨p, 0, none⟩)] w fun x w' => ∃ A c, x = .returned (.slice A n c) ∧ Sl iv w' A n c xs ∧ Below w.heap.size w w' := by
  refine (busy_any B p v L la en w h hn).mono ?_
  rintro x w' ⟨vb, rfl, ho, hb⟩
  rw [hx] at ho
  obtain ⟨A, c, rfl, hs⟩ := Ow.sl ho
  rw [hl] at hs ⊢
  exact ⟨A, c, rfl, hs, hb⟩
end
set_option maxRecDepth 100000 in
set_option maxHeartbeats 8000000 in
theorem works_any (w : World) (hT : TabAt w) : Calls Tryd.prog 8 #[] w fun x w' => x = .returned (.bool true) ∧ Below w.heap.size w w' := by
  go_enter Tryd.func8, Tryd.ntmps8
  go_wp2_with fail
  refine (new_any w).mono ?_
  rintro x w0 ⟨rfl, ho, hb⟩
  have O0 := Lib.hid ho
  have T0 := Lib.hid (hT.later hb)
  have hpos := hT.lt
  have HB0 := Lib.hid hb
  clear ho hb hT
  go_wp2_with fail
  refine (begin_k (M := [(1, 0)]) (c := 1) O0.out (by decide) HB0.out.size (by decide) rfl).mono ?_
  rintro x w1 ⟨rfl, v1, en1, ho, hf⟩
  have O1 := Lib.hid ho
  have T1 := Lib.hid (T0.out.fr O0.out hf hpos)
  have HB1 := Lib.hid (Fr.below HB0.out hf (HB0.out.size) (O0.out.hp) (fun k hk => (O0.out.own.lt k hk).1))
  clear ho hf O0 T0 HB0
  go_wp2_with fail
  refine (begin_k (M := [(1, 0), (1, 0)]) (c := 2) O1.out (by decide) HB1.out.size (by decide) rfl).mono ?_
  rintro x w2 ⟨rfl, v2, en2, ho, hf⟩
  have O2 := Lib.hid ho
  have T2 := Lib.hid (T1.out.fr O1.out hf hpos)
  have HB2 := Lib.hid (Fr.below HB1.out hf (HB1.out.size) (O1.out.hp) (fun k hk => (O1.out.own.lt k hk).1))
  clear ho hf O1 T1 HB1
  go_wp2_with fail
  refine (commit_k 1 5 (M := [(3, 5), (1, 0)]) (lb := 5) (c := 0) O2.out T2.out hpos (by decide) (by decide +kernel) (by decide +kernel) (by decide +kernel)).mono ?_
  rintro x w3 ⟨rfl, v3, en3, ho, hf⟩
  have O3 := Lib.hid ho
  have T3 := Lib.hid (T2.out.fr O2.out hf hpos)
  have HB3 := Lib.hid (Fr.below HB2.out hf (HB2.out.size) (O2.out.hp) (fun k hk => (O2.out.own.lt k hk).1))
  clear ho hf O2 T2 HB2
  go_wp2_with fail
  refine (commit_k 1 6 (M := [(3, 5), (1, 0)]) (lb := 5) (c := 7) O3.out T3.out hpos (by decide) (by decide +kernel) (by decide +kernel) (by decide +kernel)).mono ?_
  rintro x w4 ⟨rfl, v4, en4, ho, hf⟩
  have O4 := Lib.hid ho
  have T4 := Lib.hid (T3.out.fr O3.out hf hpos)
  have HB4 := Lib.hid (Fr.below HB3.out hf (HB3.out.size) (O3.out.hp) (fun k hk => (O3.out.own.lt k hk).1))
  clear ho hf O3 T3 HB3
  go_wp2_with fail
  refine (commit_k 2 5 (M := [(3, 5), (1, 0)]) (lb := 5) (c := 1) O4.out T4.out hpos (by decide) (by decide +kernel) (by decide +kernel) (by decide +kernel)).mono ?_
  rintro x w5 ⟨rfl, v5, en5, ho, hf⟩
  have O5 := Lib.hid ho
  have T5 := Lib.hid (T4.out.fr O4.out hf hpos)
  have HB5 := Lib.hid (Fr.below HB4.out hf (HB4.out.size) (O4.out.hp) (fun k hk => (O4.out.own.lt k hk).1))
  clear ho hf O4 T4 HB4
  go_wp2_with fail
  refine (fall_k 2 (M := [(3, 5), (2, 0)]) (lb := 5) (c := 0) O5.out T5.out hpos (by decide) (by decide +kernel) (by decide +kernel) (by decide +kernel)).mono ?_
  rintro x w6 ⟨rfl, v6, en6, ho, hf⟩
  have O6 := Lib.hid ho
  have T6 := Lib.hid (T5.out.fr O5.out hf hpos)
  have HB6 := Lib.hid (Fr.below HB5.out hf (HB5.out.size) (O5.out.hp) (fun k hk => (O5.out.own.lt k hk).1))
  clear ho hf O5 T5 HB5
  go_wp2_with fail
  refine (busy_k [2] 1 O6.out (by decide) (by decide +kernel) rfl).mono ?_
  rintro x w7 ⟨Ab, cb, rfl, hsb, hb⟩
  have O7 := Lib.hid (O6.out.later hb)
  have T7 := Lib.hid (T6.out.later hb)
  have HB7 := Lib.hid (stepB HB6.out hb)
  clear hb O6 T6 HB6
  go_wp2_with fail
  have hb0 : Below w7.heap.size w7 (w7.alloc (.cells #[.int .i64 2] 3)) := (Below.refl _ _).alloc (Nat.le_refl _) _
  refine (ints_any Ab (some ⟨w7.heap.size, 0, none⟩) 1 1 cb 1 [2] [2] (w7.alloc (.cells #[.int .i64 2] 3)) (hsb.later hb0).rd (Blk.sl (enc := iv) (xs := [2]) (Blk.new w7 _ 3)).rd (by decide) (by decide)).mono ?_
  rintro x _ ⟨rfl, d, rfl⟩
  rw [show decide (([2] : List Int) = [2]) = true from rfl]
  have hb := below_drewN hb0 d
  generalize (w7.alloc (.cells #[.int .i64 2] 3)).drewN d = w8 at *
  clear hb0 hsb
  have O8 := Lib.hid (O7.out.later hb)
  have T8 := Lib.hid (T7.out.later hb)
  have HB8 := Lib.hid (stepB HB7.out hb)
  clear hb O7 T7 HB7
  go_wp2_with fail
  refine (active_k (c := 0) O8.out (by decide) (by decide +kernel)).mono ?_
  rintro x w9 ⟨rfl, hb⟩
  have O9 := Lib.hid (O8.out.later hb)
  have T9 := Lib.hid (T8.out.later hb)
  have HB9 := Lib.hid (stepB HB8.out hb)
  clear hb O8 T8 HB8
  go_wp2_with fail
  refine (commit_k 2 6 (M := [(3, 5), (2, 0)]) (lb := 5) (c := 7) O9.out T9.out hpos (by decide) (by decide +kernel) (by decide +kernel) (by decide +kernel)).mono ?_
  rintro x w10 ⟨rfl, v10, en10, ho, hf⟩
  have O10 := Lib.hid ho
  have T10 := Lib.hid (T9.out.fr O9.out hf hpos)
  have HB10 := Lib.hid (Fr.below HB9.out hf (HB9.out.size) (O9.out.hp) (fun k hk => (O9.out.own.lt k hk).1))
  clear ho hf O9 T9 HB9
  go_wp2_with fail
  refine (fallen_k 2 (M := [(3, 5), (4, 0)]) (lb := 5) (c := 0) O10.out T10.out hpos (by decide) (by decide +kernel) (by decide +kernel) (by decide +kernel)).mono ?_
  rintro x w11 ⟨rfl, v11, en11, ho, hf⟩
  have O11 := Lib.hid ho
  have T11 := Lib.hid (T10.out.fr O10.out hf hpos)
  have HB11 := Lib.hid (Fr.below HB10.out hf (HB10.out.size) (O10.out.hp) (fun k hk => (O10.out.own.lt k hk).1))
  clear ho hf O10 T10 HB10
  go_wp2_with fail
  refine (busy_k [] 0 O11.out (by decide) (by decide +kernel) rfl).mono ?_
  rintro x w12 ⟨Ac, cc, rfl, hsb, hb⟩
  clear hsb
  have O12 := Lib.hid (O11.out.later hb)
  have T12 := Lib.hid (T11.out.later hb)
  have HB12 := Lib.hid (stepB HB11.out hb)
  clear hb O11 T11 HB11
  go_wp2_with fail
  refine (is_k 1 3 5 (b := true) O12.out (by decide) (by decide +kernel)).mono ?_
  rintro x w13 ⟨rfl, hb⟩
  have O13 := Lib.hid (O12.out.later hb)
  have T13 := Lib.hid (T12.out.later hb)
  have HB13 := Lib.hid (stepB HB12.out hb)
  clear hb O12 T12 HB12
  go_wp2_with fail
  refine (is_k 2 4 0 (b := true) O13.out (by decide) (by decide +kernel)).mono ?_
  rintro x w14 ⟨rfl, hb⟩
  have O14 := Lib.hid (O13.out.later hb)
  have T14 := Lib.hid (T13.out.later hb)
  have HB14 := Lib.hid (stepB HB13.out hb)
  clear hb O13 T13 HB13
  go_wp2_with fail
  refine (is_k 3 0 0 (b := true) O14.out (by decide) (by decide +kernel)).mono ?_
  rintro x w15 ⟨rfl, hb⟩
  have O15 := Lib.hid (O14.out.later hb)
  have T15 := Lib.hid (T14.out.later hb)
  have HB15 := Lib.hid (stepB HB14.out hb)
  clear hb O14 T14 HB14
  go_wp2_with fail
  refine (high_k (c := 3) O15.out (by decide) (by decide)).mono ?_
  rintro x w16 ⟨rfl, hb⟩
  have O16 := Lib.hid (O15.out.later hb)
  have T16 := Lib.hid (T15.out.later hb)
  have HB16 := Lib.hid (stepB HB15.out hb)
  clear hb O15 T15 HB15
  go_wp2_with fail
  refine (last_k O16.out).mono ?_
  rintro x w17 ⟨rfl, hb⟩
  have O17 := Lib.hid (O16.out.later hb)
  have T17 := Lib.hid (T16.out.later hb)
  have HB17 := Lib.hid (stepB HB16.out hb)
  clear hb O16 T16 HB16
  go_wp2
  go_ret
  exact ⟨rfl, HB17.out⟩
end Go.Proofs.YtmkgipbepipjkaaDoor
