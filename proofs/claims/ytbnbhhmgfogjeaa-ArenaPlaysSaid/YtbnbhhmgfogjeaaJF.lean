/- clear; Alloc. -/
import Derived.Test.YtbnbhhmgfogjeaaJE
import Derived.Laws.CopyRow
namespace Go.Proofs.Ytbnbhhmgfogjeaa
open Go.ChangeShapes Go.WideShapes Go.ChangeAt Go.RowKit Go.Maps
set_option linter.unusedVariables false
set_option linter.unusedSimpArgs false

/-- bytes from a place on are 0 -/
def fillZ (bs : List Int) (o n : Nat) : List Int := bs.take o ++ List.replicate n 0 ++ bs.drop (o + n)
theorem fillZ_len {bs : List Int} {o n : Nat} (h : o + n ≤ bs.length) : (fillZ bs o n).length = bs.length := by unfold fillZ; simp; omega
theorem pgv_fill (slot fresh last : Int) (b : Nat) (bs : List Int) (o n : Nat) (v : List Int) (h : v.length = n) : (pgv slot fresh last b bs).take (4 + o) ++ v.map by8 ++ (pgv slot fresh last b bs).drop (4 + o + n) = pgv slot fresh last b (bs.take o ++ v ++ bs.drop (o + n)) := by
  rw [show 4 + o = o + 4 from by omega, show o + 4 + n = (o + n) + 4 from by omega]
  unfold pgv
  simp [List.map_append, List.map_take, List.map_drop]
theorem zero5 (w : World) : (zeroValue 5).run Try.prog w = .ok (.int .u8 0) w := by kernel_rfl
theorem blk_setRow {W : World} {g : Nat} {c c' : Array Value} {t : TypeId} (h : Blk W g c t) : Blk (W.setRow g c') g c' t := setRow_heap W g c c' t (0, 0) h
theorem grown_setRow (W : World) (g : Nat) (c : Array Value) : W.grownBy (W.setRow g c) (some g) := ⟨rfl, rfl, rfl, by simp, fun k _ hk => setRow_other W g k c (fun e => hk (by rw [e]))⟩
section
variable {W : World} {B p b : Nat} {slot fresh last : Int} {C bs : List Int}
/-- some of the bytes written -/
theorem PgAt.row (h : PgAt W B p b slot fresh last C bs) (o n : Nat) (v : List Int) (hv : v.length = n) (hn : o + n ≤ 4096) :
    PgAt (W.setRow p ((pgv slot fresh last b bs).take (4 + o) ++ v.map by8 ++ (pgv slot fresh last b bs).drop (4 + o + n)).toArray) B p b slot fresh last C (bs.take o ++ v ++ bs.drop (o + n)) :=
  ⟨h.hp, by rw [pgv_fill _ _ _ _ _ _ _ _ hv]; exact blk_setRow h.blk, ⟨h.own.1, h.own.2.kept (grown_setRow W p _) (fun e => h.ne (Option.some.inj e).symm)⟩, h.ok, by have := h.len; simp; omega⟩
theorem store_row (h : PgAt W B p b slot fresh last C bs) (o n : Nat) (v : List Int) (hv : v.length = n) (hn : o + n ≤ 4096) :
    (storeCells ⟨p, 4 + o, none⟩ (v.map by8)).run Try.prog W = .ok () (W.setRow p ((pgv slot fresh last b bs).take (4 + o) ++ v.map by8 ++ (pgv slot fresh last b bs).drop (4 + o + n)).toArray) := by
  have hs : (pgv slot fresh last b bs).toArray.size = 4100 := by have := h.len; simp [pgv]; omega
  have := run_storeCells_at Try.prog p (4 + o) 102 (v.map by8) 0 (pgv slot fresh last b bs).toArray W h.blk (by rw [hs]; simp; omega) (fun x hx => by
    obtain ⟨y, _, rfl⟩ := List.mem_map.1 hx; rfl)
  simpa [hv] using this
theorem clear_run (h : PgAt W B p b slot fresh last C bs) (o n c : Nat) (hn : o + n ≤ 4096) (ty : TypeId) :
    ∃ W', (Builtin.clear_ #[96] ty #[.slice (some ⟨p, 4 + o, none⟩) n c]).run Try.prog W = .ok (.tuple #[]) W' ∧ PgAt W' B p b slot fresh last C (fillZ bs o n) ∧ W.grownBy W' (some p) := by
  cases n with
  | zero =>
    refine ⟨W, ?_, by unfold fillZ; simpa using h, World.grownBy.refl _ _⟩
    simp [Builtin.clear_, run_underlying Try.underlying96]
  | succ n =>
    refine ⟨_, ?_, h.row o (n + 1) (List.replicate (n + 1) 0) (by simp) hn, grown_setRow _ _ _⟩
    have hz : (Builtin.zeroCells (Value.cells (.int .u8 0)) (n + 1)).toList = (List.replicate (n + 1) (0 : Int)).map by8 := by
      simp [Builtin.zeroCells, Value.cells, by8]
      rw [List.eq_replicate_iff]
      refine ⟨by simp, fun x hx => ?_⟩
      obtain ⟨i, _, rfl⟩ := List.mem_map.1 hx
      rw [Nat.mod_one]; rfl
    have hst := store_row h o (n + 1) (List.replicate (n + 1) 0) (by simp) hn
    rw [← hz] at hst
    simp [Builtin.clear_, run_underlying Try.underlying96, zero5, hst]
    rw [hz]; simp
theorem PgAt.turned {W' : World} {n : Nat} {D : List Int} (h : PgAt W B p b slot fresh last C bs) (hg : W.grownBy W' (some b)) (ho : W'.ownsMap Try.prog 41 unitElem b n (dm D)) (ok : Ok D) : PgAt W' B p b slot fresh last D bs :=
  ⟨h.hp, h.blk.grown hg (fun e => h.ne (Option.some.inj e)), ⟨h.own.1, own_tight ho⟩, ok, h.len⟩
end
theorem wf16 {x : Int} (h0 : 0 ≤ x) (h1 : x ≤ 65535) : (Lit.int .u16 x).wf = true := by
  simp only [Lit.wf, Bool.and_eq_true, decide_eq_true_eq]
  exact ⟨h0, h1⟩
set_option maxRecDepth 100000 in
set_option maxHeartbeats 4000000 in
theorem alloc_full (B p b : Nat) (slot fresh last : Int) (C bs : List Int) (w : World) (h : PgAt w B p b slot fresh last C bs) (h2 : 2 ≤ slot) (h3 : slot ≤ 4096) (hr : 4096 / slot - (C.length : Nat) = 0) : Calls Try.prog 36 #[.pointer (some ⟨p, 0, none⟩)] w fun e w' => e = .returned (.tuple #[.int .u16 0, .int .i64 41]) ∧ Below w.heap.size w w' := by
  have HR := Lib.hid (room_any B p b slot fresh last C bs w h h2 h3)
  rw [hr] at HR
  clear h h2 h3 hr
  go_enter Try.func36, Try.ntmps36
  go_wp2_with fail
  refine HR.out.mono ?_
  rintro e w1 ⟨rfl, hb⟩
  have HB := Lib.hid hb
  clear hb HR
  go_wp2
  go_ret2
  exact ⟨rfl, HB.out⟩
set_option maxRecDepth 100000 in
set_option maxHeartbeats 4000000 in
theorem alloc_of (B p b s o : Nat) (fresh last fresh' last' : Int) (C bs : List Int) (w : World) (h : PgAt w B p b (s : Int) fresh last C bs) (hs : 2 ≤ s) (ho : o + s ≤ 4096) (hr : ¬ 4096 / (s : Int) - (C.length : Nat) = 0)
    (HN : ∀ W, PgAt W B p b (s : Int) fresh last C bs → Calls Try.prog 58 #[.pointer (some ⟨p, 0, none⟩)] W fun e w' => e = .returned (.int .u16 (o : Int)) ∧ PgAt w' B p b (s : Int) fresh' last' C bs ∧ W.grownBy w' (some p)) :
    Calls Try.prog 36 #[.pointer (some ⟨p, 0, none⟩)] w fun e w' => e = .returned (.tuple #[.int .u16 (o : Int), .int .i64 0]) ∧ PgAt w' B p b (s : Int) fresh' last' (putC C o) (fillZ bs o s) ∧ Fr w w' p b := by
  have HR := Lib.hid (room_any B p b (s : Int) fresh last C bs w h (by omega) (by omega))
  obtain ⟨r, hrr⟩ : ∃ r : Int, 4096 / (s : Int) - (C.length : Nat) = r := ⟨_, rfl⟩
  rw [hrr] at HR hr
  have d1 : (r == 0) = false := by rw [beq_eq_false_iff_ne]; exact hr
  have H := Lib.hid h
  have HNN := Lib.hid HN
  have hlen := h.ok.len
  have hx : (Lit.int .u16 (o : Int)).wf = true := wf16 (by omega) (by omega)
  clear h hr hrr HN
  go_enter Try.func36, Try.ntmps36
  go_wp2_with fail
  refine HR.out.mono ?_
  rintro e w1 ⟨rfl, hb⟩
  have H1 := Lib.hid (H.out.later hb)
  have HF1 : Hid (Fr w w1 p b) := Fr.of_below hb
  clear hb HR H
  go_wp2_with fail
  refine (HNN.out w1 H1.out).mono ?_
  rintro e w2 ⟨rfl, h2, hg⟩
  have H2 := Lib.hid h2
  have HF2 : Hid (Fr w w2 p b) := HF1.out.trans (Fr.of_p hg)
  clear h2 hg HNN H1 HF1
  go_wp2_with fail
  refine (at_any B p b s o fresh' last' C bs w2 H2.out hs ho).mono ?_
  rintro e w3 ⟨rfl, hb⟩
  have H3 := Lib.hid (H2.out.later hb)
  have HF3 : Hid (Fr w w3 p b) := HF2.out.trans (Fr.of_below hb)
  clear hb H2 HF2
  obtain ⟨w4, hcl, h4, hg4⟩ := clear_run H3.out o s (4096 - o) ho 0
  have H4 := Lib.hid h4
  have HF4 : Hid (Fr w w4 p b) := HF3.out.trans (Fr.of_p hg4)
  have k3 := h4.c3
  have HM := Lib.hid h4.own.2
  clear h4 hg4 H3 HF3
  go_wp2_with (first
    | (at_mapUpdate; refine wpList_mapUpdate_own _ rfl _ _ _ 99 rfl 41 98 law23 Try.underlying99 _ b C.length _ rfl HM.out (by unfold maxLen; omega) _ _ _ rfl rfl (keyOf_int_mk Try.underlying41 hx) _ [] unitElem_mk ?_; intro w5 ho5)
    | go_in)
  intro hg5
  rw [put_dm] at ho5
  have HF := Lib.hid (H4.out.turned hg5 ho5 (H4.out.ok.put (by omega) (by omega)))
  have HG := Lib.hid (HF4.out.trans (Fr.of_b hg5))
  clear ho5 hg5 k3 hcl HM H4 HF4
  go_wp2
  go_ret2
  exact ⟨rfl, HF.out, HG.out⟩
end Go.Proofs.Ytbnbhhmgfogjeaa
