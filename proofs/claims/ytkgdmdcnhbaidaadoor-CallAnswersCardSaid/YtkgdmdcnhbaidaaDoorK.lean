/- Words as they lie; Show's closure. -/
import Derived.Test.YtkgdmdcnhbaidaaDoorX
import Derived.Test.YtkgdmdcnhbaidaaDoorJ
namespace Go.Proofs.YtkgdmdcnhbaidaaDoor
open Go.ChangeShapes Go.WideShapes Go.ChangeAt Go.RowKit
set_option linter.unusedVariables false
set_option linter.unusedSimpArgs false

def sv (s : ByteArray) : Value := .string s
theorem elemS : Elem Tryd.prog 25 9 sv 16 where
  und := Tryd.underlying25
  info := by
    have h : (Tryd.prog.info? 9).map (fun i => (i.zero, i.size, i.bytes)) = some (some (.string ByteArray.empty), 1, 16) := by kernel_rfl
    cases hi : Tryd.prog.info? 9 with
    | none => rw [hi] at h; cases h
    | some i => rw [hi] at h; simp only [Option.map_some, Option.some.injEq, Prod.mk.injEq] at h; exact ⟨i, _, rfl, h.1, h.2.1, h.2.2, rfl⟩
  one := fun _ => rfl
/-- words as they lie -/
structure LsAt (W : World) (B p : Nat) (v : Value) (L : List ByteArray) : Prop where
  hp : B ≤ p
  blk : Blk W p #[v] 25
  row : Ow sv W B 9 v L.length L
theorem LsAt.later {W W' : World} {B p : Nat} {v : Value} {L : List ByteArray} (h : LsAt W B p v L) (hb : Below W.heap.size W W') : LsAt W' B p v L := ⟨h.hp, h.blk.later hb, h.row.later hb⟩
theorem LsAt.ne {W : World} {B p : Nat} {v : Value} {L : List ByteArray} (h : LsAt W B p v L) : v.ownBlock ≠ some p := fun e => by
  obtain ⟨c, hc⟩ := Ow.tag h.row p e
  have := h.blk
  unfold Blk at this
  rw [hc] at this
  cases this
theorem FrX.refl (w : World) (p : Nat) (r : Option Nat) : FrX w w p r := ⟨rfl, rfl, rfl, Nat.le_refl _, fun _ _ _ _ => rfl⟩
/-- words more, if they are wanted -/
def moreL (b : Bool) (L : List ByteArray) (s : ByteArray) : List ByteArray := if b then L ++ [s] else L
theorem moreL_len (b : Bool) (L : List ByteArray) (s : ByteArray) : (moreL b L s).length ≤ L.length + 1 := by unfold moreL; split <;> simp
set_option maxRecDepth 100000 in
set_option maxHeartbeats 4000000 in
theorem addw_any (p B : Nat) (v : Value) (L : List ByteArray) (b : Bool) (s : ByteArray) (w : World) (h : LsAt w B p v L) (hB : B ≤ w.heap.size) (hl : L.length ≤ 100000) : Calls Tryd.prog 37 #[.bool b, .string s, .pointer (some ⟨p, 0, none⟩)] w fun e w' => e = .returned (.tuple #[]) ∧ ∃ v', LsAt w' B p v' (moreL b L s) ∧ FrX w w' p v.ownBlock ∧ Nw w v v' := by
  unfold moreL
  have HX := Lib.hid h
  obtain ⟨A, c, rfl, _⟩ := Ow.sl h.row
  cases b with
  | false =>
    clear h
    go_enter Tryd.func37, Tryd.ntmps37
    go_wp2
    refine bodyPost_end (results_none rfl _ _ _) rfl ?_
    exact ⟨rfl, _, HX.out, FrX.refl _ _ _, fun k ek => .inl ek⟩
  | true =>
    have hby : Below w.heap.size w (w.alloc (.cells #[.string s] 9)) := (Below.refl _ _).alloc (Nat.le_refl _) _
    have HB := Lib.hid hby
    have HX3 := Lib.hid (h.later hby)
    have HY : Hid ((w.alloc (.cells #[.string s] 9)).cell? ⟨w.heap.size, 0, none⟩ = some (sv s)) := (Blk.new w #[.string s] 9).cell 0
    have c0 := h.blk.cell 0
    simp only [List.getElem?_toArray, List.getElem?_cons_zero, List.getElem?_cons_succ] at c0
    clear h hby
    go_enter Tryd.func37, Tryd.ntmps37
    go_wp2_with (first
      | (at_builtin; refine append_lies_sl elemS rfl (.tmp 6) (.tmp 8) rfl B (.slice A L.length c) L.length L rfl HX3.out.row w.heap.size s rfl HY.out (by omega) (by decide) (Nat.le_trans hB HB.out.size) ?_; intro A8 c8 w8 ho8 hg8)
      | fail)
    intro hn8
    have hbk : Blk w8 p #[.slice A L.length c] 25 := HX3.out.blk.grown hg8 (fun e => HX3.out.ne e.symm)
    have hne : (Value.slice A8 (L.length + 1) c8).ownBlock ≠ some p := fun e => by
      obtain ⟨cu, hc⟩ := Ow.tag ho8 p e
      have := hbk
      unfold Blk at this
      rw [hc] at this
      cases this
    have HT : Hid (LsAt (w8.setCell ⟨p, 0, none⟩ (.slice A8 (L.length + 1) c8)) B p (.slice A8 (L.length + 1) c8) (L ++ [s])) := by
      refine ⟨HX.out.hp, hbk.set (j := 0) _, ?_⟩
      rw [List.length_append]
      exact ow_keep ho8 (fun k ek => Below.heap_setCell w8 ⟨p, 0, none⟩ _ k (fun e => hne (by rw [ek, e])))
    have HF : Hid (FrX w (w8.setCell ⟨p, 0, none⟩ (.slice A8 (L.length + 1) c8)) p (Value.slice A L.length c).ownBlock) := by
      refine ⟨hg8.os.trans HB.out.os, hg8.tape.trans HB.out.tape, hg8.output.trans HB.out.output, by simp [World.setCell]; exact Nat.le_trans HB.out.size hg8.size, fun k hk h1 h2 => ?_⟩
      rw [Below.heap_setCell w8 ⟨p, 0, none⟩ _ k h1, hg8.block k (Nat.lt_of_lt_of_le hk HB.out.size) (fun e => h2 e.symm), HB.out.block k hk]
    have HNW : Hid (Nw w (.slice A L.length c) (.slice A8 (L.length + 1) c8)) := fun k ek => by
      rcases hn8 k ek with e | e
      · exact .inl e
      · exact .inr (Nat.le_trans HB.out.size e)
    have c1 := hbk.cell 0
    have f1 := hbk.frozen 0
    simp only [List.getElem?_toArray, List.getElem?_cons_zero, List.getElem?_cons_succ] at c1
    clear hbk hne ho8 hg8 hn8 HX3 HX HY HB c0
    go_wp2
    refine bodyPost_end (results_none rfl _ _ _) rfl ?_
    exact ⟨rfl, _, HT.out, HF.out, HNW.out⟩
end Go.Proofs.YtkgdmdcnhbaidaaDoor
