/- Parse. -/
import Derived.Test.YtkgdmdcnhbaidaaDoorF
import Derived.Lib.SplitLaws
namespace Go.Proofs.YtkgdmdcnhbaidaaDoor
open Go.ChangeShapes Go.WideShapes Go.ChangeAt Go.RowKit
set_option linter.unusedVariables false
set_option linter.unusedSimpArgs false

def sp : ByteArray := { data := #[32] }
def wordsOf (s : ByteArray) : List ByteArray := Lib.splitB sp 0 (Lib.countB s sp) s
theorem words_len (s : ByteArray) : (wordsOf s).length = Lib.countB s sp + 1 := Lib.splitB_all sp (by decide) 0 _ s rfl
theorem split_sz (sep : ByteArray) (sv : Nat) : ∀ (k : Nat) (s : ByteArray), ∀ x ∈ Lib.splitB sep sv k s, x.size ≤ s.size
  | 0, s, x, h => by rw [Lib.splitB_zero, List.mem_singleton] at h; rw [h]; exact Nat.le_refl _
  | k + 1, s, x, h => by
    rw [Lib.splitB] at h
    split at h
    · rw [List.mem_singleton] at h; rw [h]; exact Nat.le_refl _
    · rcases List.mem_cons.1 h with h | h
      · rw [h, ByteArray.size_extract]; omega
      · have := split_sz sep sv k _ x h
        rw [ByteArray.size_extract] at this
        omega
def cl0 : Cl := (0, 0, emp, emp, emp, 0, 0)
/-- the readers behind each step -/
def rd1 (s : ByteArray) : Rd_ := (nextR (wordsOf s, false)).2
def kd1 (s : ByteArray) : Nat := kindW (nextR (wordsOf s, false)).1
def rd2 (s : ByteArray) : Rd_ := (numR (nmK (kd1 s)).1 (rd1 s)).2
def rd3 (s : ByteArray) : Rd_ := (txtR (nmK (kd1 s)).2.1 (rd2 s)).2
def rd4 (s : ByteArray) : Rd_ := (txtR (nmK (kd1 s)).2.2.1 (rd3 s)).2
def rd5 (s : ByteArray) : Rd_ := (txtR (nmK (kd1 s)).2.2.2.1 (rd4 s)).2
def rd6 (s : ByteArray) : Rd_ := (numR (nmK (kd1 s)).2.2.2.2.1 (rd5 s)).2
def rd7 (s : ByteArray) : Rd_ := (numR (nmK (kd1 s)).2.2.2.2.2 (rd6 s)).2
def eng1 (s : ByteArray) : Int := (numR (nmK (kd1 s)).2.2.2.2.2 (rd6 s)).1
def clP (s : ByteArray) : Cl := (kd1 s, (numR (nmK (kd1 s)).1 (rd1 s)).1, (txtR (nmK (kd1 s)).2.1 (rd2 s)).1, (txtR (nmK (kd1 s)).2.2.1 (rd3 s)).1, (txtR (nmK (kd1 s)).2.2.2.1 (rd4 s)).1, (numR (nmK (kd1 s)).2.2.2.2.1 (rd5 s)).1, (eng1 s % 256).toNat)
def okP (s : ByteArray) : Bool := overR (rd7 s) && decide (eng1 s = ((eng1 s % 256).toNat : Nat)) && mayC (clP s)
def parV (s : ByteArray) : Value := .tuple #[clV (if okP s then clP s else cl0), .int .i64 (if okP s then 0 else 4)]
theorem parV_no {s : ByteArray} (h : okP s = false) : parV s = .tuple #[clV cl0, .int .i64 4] := by unfold parV; rw [h]; rfl
theorem parV_yes {s : ByteArray} (h : okP s = true) : parV s = .tuple #[clV (clP s), .int .i64 0] := by unfold parV; rw [h]; rfl
theorem results_cell_row2 {P : Program} {fn : Func} {p u : Tmp} {ty : TypeId} (h : fn.results = #[.cell p ty, .tmp u]) (tmps : Array Value) (w : World) (g : Nat) (t : TypeId) (cs : Array Value) (fr : Nat × Nat) (d : TypeDesc)
    (hp : tmps.getD p undef = .pointer (some ⟨g, 0, none⟩)) (hg : w.heap[g]? = some (.cells cs t fr))
    (hu : P.underlying ty = some d) (hd : (match d with | .struct _ | .array _ _ => true | _ => false) = true) (hi : (P.info? ty).map (·.size) = some cs.size) {b : Value} (hb : tmps.getD u undef = b) :
    (results fn tmps).run P w = .ok (.tuple #[.agg cs, b]) w := by
  have hp' : tmps[p]?.getD undef = .pointer (some ⟨g, 0, none⟩) := by simpa using hp
  have hb' : tmps[u]?.getD undef = b := by simpa using hb
  simp [results, h, hp', hb', asAddr, run_loadVar_row w g t ty cs fr d hg hu hd hi]
theorem arr7 {c : Array Value} (h : c.size = 7) : ∃ a0 a1 a2 a3 a4 a5 a6, c = #[a0, a1, a2, a3, a4, a5, a6] := by
  obtain ⟨l⟩ := c
  have h : l.length = 7 := h
  match l, h with
  | [a0, a1, a2, a3, a4, a5, a6], _ => exact ⟨a0, a1, a2, a3, a4, a5, a6, rfl⟩
/-- a block of seven cells is written anew -/
theorem set7 {W : World} {q : Nat} {c : Array Value} (h : Blk W q c 24) (hc : c.size = 7) (v0 v1 v2 v3 v4 v5 v6 : Value) {w : World} {B : Nat} (hb : Below B w W) (hq : B ≤ q) :
    Blk (((((((W.setCell ⟨q, 0, none⟩ v0).setCell ⟨q, 1, none⟩ v1).setCell ⟨q, 2, none⟩ v2).setCell ⟨q, 3, none⟩ v3).setCell ⟨q, 4, none⟩ v4).setCell ⟨q, 5, none⟩ v5).setCell ⟨q, 6, none⟩ v6) q #[v0, v1, v2, v3, v4, v5, v6] 24 ∧
    Below B w (((((((W.setCell ⟨q, 0, none⟩ v0).setCell ⟨q, 1, none⟩ v1).setCell ⟨q, 2, none⟩ v2).setCell ⟨q, 3, none⟩ v3).setCell ⟨q, 4, none⟩ v4).setCell ⟨q, 5, none⟩ v5).setCell ⟨q, 6, none⟩ v6) := by
  refine ⟨?_, ((((((hb.setCell (p := ⟨q, 0, none⟩) hq v0).setCell (p := ⟨q, 1, none⟩) hq v1).setCell (p := ⟨q, 2, none⟩) hq v2).setCell (p := ⟨q, 3, none⟩) hq v3).setCell (p := ⟨q, 4, none⟩) hq v4).setCell (p := ⟨q, 5, none⟩) hq v5).setCell (p := ⟨q, 6, none⟩) hq v6⟩
  have h7 := ((((((h.set (j := 0) v0).set (j := 1) v1).set (j := 2) v2).set (j := 3) v3).set (j := 4) v4).set (j := 5) v5).set (j := 6) v6
  have e : ((((((c.setIfInBounds 0 v0).setIfInBounds 1 v1).setIfInBounds 2 v2).setIfInBounds 3 v3).setIfInBounds 4 v4).setIfInBounds 5 v5).setIfInBounds 6 v6 = #[v0, v1, v2, v3, v4, v5, v6] := by
    obtain ⟨a0, a1, a2, a3, a4, a5, a6, rfl⟩ := arr7 hc
    simp only [List.setIfInBounds_toArray, List.set_cons_zero, List.set_cons_succ]
  rw [e] at h7
  exact h7
theorem num_sz {is : Bool} {r : Rd_} (h : ∀ x ∈ r.1, x.size ≤ 100000) : ∀ x ∈ (numR is r).2.1, x.size ≤ 100000 := by
  cases is with
  | false => exact h
  | true => exact (next_sz h).2
theorem txt_sz {is : Bool} {r : Rd_} (h : ∀ x ∈ r.1, x.size ≤ 100000) : ∀ x ∈ (txtR is r).2.1, x.size ≤ 100000 := by
  cases is with
  | false => exact h
  | true => exact (next_sz h).2
theorem fw_le {w : ByteArray} : ∀ (l : List ByteArray) (k : Nat), fw w k l ≤ k + l.length
  | [], k => Nat.zero_le _
  | a :: l, k => by
    rw [fw]
    split
    · omega
    · have := fw_le (w := w) l (k + 1)
      rw [List.length_cons]; omega
theorem kindW_le {w : ByteArray} : kindW w ≤ 10 := fw_le wdL 0
/-- what lies while a text is parsed: the reader p, the call px, what is handed back pr -/
structure PW (w W : World) (p px pr : Nat) (r : Rd_) (X : Array Value) : Prop where
  rd : RdO W p r
  bx : Blk W px X 24
  br : Blk W pr #[.int .u8 0, .int .i64 0, .string { data := #[] }, .string { data := #[] }, .string { data := #[] }, .int .i64 0, .int .u8 0] 24
  gl : Gl W
  lo : Below w.heap.size w W
  o1 : w.heap.size ≤ pr
  o2 : pr < p
  o3 : p < px
  o4 : 8 ≤ pr
section
variable {w W W' : World} {p px pr : Nat} {r r' : Rd_} {X : Array Value}
theorem PW.later (h : PW w W p px pr r X) (hb : Below W.heap.size W W') : PW w W' p px pr r X := ⟨h.rd.later hb, h.bx.later hb, h.br.later hb, h.gl.later hb, stepB h.lo hb, h.o1, h.o2, h.o3, h.o4⟩
theorem PW.call (h : PW w W p px pr r X) (hr : RdO W' p r') (hg : W.grownBy W' (some p)) : PW w W' p px pr r' X := by
  have h1 := h.o1
  have h2 := h.o2
  have h3 := h.o3
  have h4 := h.o4
  exact ⟨hr, h.bx.grown hg (fun e => by cases e; omega), h.br.grown hg (fun e => by cases e; omega), h.gl.grown hg (by omega), h.lo.grown hg h.lo.size (fun k e => by cases e; omega), h1, h2, h3, h4⟩
theorem PW.store (h : PW w W p px pr r X) (j : Nat) (v : Value) : PW w (W.setCell ⟨px, j, none⟩ v) p px pr r (X.setIfInBounds j v) := by
  have h1 := h.o1
  have h2 := h.o2
  have h3 := h.o3
  have h4 := h.o4
  exact ⟨h.rd.other h3, h.bx.set v, h.br.other (by omega) v, h.gl.grown (p := px) (grown_set _ _ _ _) (by omega), h.lo.setCell (p := ⟨px, j, none⟩) (show w.heap.size ≤ px by omega) v, h1, h2, h3, h4⟩
end
set_option maxRecDepth 100000 in
set_option maxHeartbeats 16000000 in
theorem parse_any (s : ByteArray) (w : World) (hs : s.size ≤ 100000) (hg : Gl w) : Calls Tryd.prog 11 #[.string s] w fun e w' => e = .returned (parV s) ∧ Below w.heap.size w w' := by
  have HB0 : Hid (Below w.heap.size w (w.alloc (.cells #[.int .u8 0, .int .i64 0, .string { data := #[] }, .string { data := #[] }, .string { data := #[] }, .int .i64 0, .int .u8 0] 24))) := (Below.refl _ _).alloc (Nat.le_refl _) _
  have HG0 := Lib.hid (hg.later HB0.out)
  obtain ⟨mx, hmx⟩ := HG0.out.max
  have HSP := Lib.hid (Tryd.strings_Split s { data := #[32] } mx _ (by omega) hmx (by decide))
  have HLO := Lib.hid hg.lo
  clear hg hmx
  go_enter Tryd.func11, Tryd.ntmps11
  go_wp2_with fail
  refine HSP.out.mono ?_
  rintro e w1 ⟨rfl, hw⟩
  have hwl := words_len s
  unfold sp at hwl
  rw [← hwl]
  have hcells : ∀ (j : Nat) (x : ByteArray), (wordsOf s)[j]? = some x → w1.cell? ⟨(w.alloc (.cells #[.int .u8 0, .int .i64 0, .string { data := #[] }, .string { data := #[] }, .string { data := #[] }, .int .i64 0, .int .u8 0] 24)).heap.size, j, none⟩ = some (.string x) := fun j x hx => by
    rw [hw]
    have h := (Blk.new (w.alloc (.cells #[.int .u8 0, .int .i64 0, .string { data := #[] }, .string { data := #[] }, .string { data := #[] }, .int .i64 0, .int .u8 0] 24)) ((Lib.splitB { data := #[32] } 0 (Lib.countB s { data := #[32] }) s).map Value.string).toArray 9).cell j
    rw [h, List.getElem?_toArray, List.getElem?_map]
    unfold wordsOf sp at hx
    rw [hx]; rfl
  have hb01 : Below (w.alloc (.cells #[.int .u8 0, .int .i64 0, .string { data := #[] }, .string { data := #[] }, .string { data := #[] }, .int .i64 0, .int .u8 0] 24)).heap.size (w.alloc (.cells #[.int .u8 0, .int .i64 0, .string { data := #[] }, .string { data := #[] }, .string { data := #[] }, .int .i64 0, .int .u8 0] 24)) w1 := by rw [hw]; exact (Below.refl _ _).alloc (Nat.le_refl _) _
  have hsz1 : w1.heap.size = (w.alloc (.cells #[.int .u8 0, .int .i64 0, .string { data := #[] }, .string { data := #[] }, .string { data := #[] }, .int .i64 0, .int .u8 0] 24)).heap.size + 1 := by rw [hw]; exact Array.size_push _
  have hsz0 : (w.alloc (.cells #[.int .u8 0, .int .i64 0, .string { data := #[] }, .string { data := #[] }, .string { data := #[] }, .int .i64 0, .int .u8 0] 24)).heap.size = w.heap.size + 1 := Array.size_push _
  have HPR : Hid (Blk w1 w.heap.size #[.int .u8 0, .int .i64 0, .string { data := #[] }, .string { data := #[] }, .string { data := #[] }, .int .i64 0, .int .u8 0] 24) := (Blk.new w _ _).later hb01
  have HB1 := Lib.hid (stepB HB0.out hb01)
  have HG1 := Lib.hid (HG0.out.later hb01)
  rw [hsz0] at hcells hsz1
  have HCL := Lib.hid hcells
  have HS1 := Lib.hid hsz1
  clear hw hwl hcells hb01 hsz1 hsz0 HSP HB0 HG0
  obtain ⟨ws, hws⟩ : ∃ ws, wordsOf s = ws := ⟨_, rfl⟩
  rw [hws] at HCL ⊢
  have HWS := Lib.hid hws
  clear hws
  go_upto_region 3 with (fail)
  obtain ⟨pr, hpr⟩ : ∃ x, w.heap.size = x := ⟨_, rfl⟩
  obtain ⟨p, hp⟩ : ∃ x, w1.heap.size = x := ⟨_, rfl⟩
  have HORD : Hid (p = pr + 2 ∧ 8 ≤ pr ∧ w.heap.size = pr) := Lib.hid (by have h1 := HS1.out; have h2 := HLO.out; omega)
  have hby1 : Below w1.heap.size w1 (w1.alloc (.cells #[.slice (some ⟨pr + 1, 0, none⟩) ws.length ws.length, .bool false] 68)) := (Below.refl _ _).alloc (Nat.le_refl _) _
  have hby2 : Below (w1.alloc (.cells #[.slice (some ⟨pr + 1, 0, none⟩) ws.length ws.length, .bool false] 68)).heap.size (w1.alloc (.cells #[.slice (some ⟨pr + 1, 0, none⟩) ws.length ws.length, .bool false] 68)) ((w1.alloc (.cells #[.slice (some ⟨pr + 1, 0, none⟩) ws.length ws.length, .bool false] 68)).alloc (.cells #[.int .u8 0, .int .i64 0, .string { data := #[] }, .string { data := #[] }, .string { data := #[] }, .int .i64 0, .int .u8 0] 24)) := (Below.refl _ _).alloc (Nat.le_refl _) _
  have hsz2 : (w1.alloc (.cells #[.slice (some ⟨pr + 1, 0, none⟩) ws.length ws.length, .bool false] 68)).heap.size = w1.heap.size + 1 := Array.size_push _
  rw [hpr] at HPR HCL
  have HRD : Hid (RdO ((w1.alloc (.cells #[.slice (some ⟨pr + 1, 0, none⟩) ws.length ws.length, .bool false] 68)).alloc (.cells #[.int .u8 0, .int .i64 0, .string { data := #[] }, .string { data := #[] }, .string { data := #[] }, .int .i64 0, .int .u8 0] 24)) p (ws, false)) := by
    refine ⟨pr + 1, 0, ws.length, RdAt.later ⟨?_, ?_, ?_, ?_, Nat.le_refl _, fun j x e => ?_⟩ hby2⟩
    · rw [← hp]; exact Blk.new w1 _ 68
    · have := HORD.out; omega
    · have := HORD.out; omega
    · rw [hsz2, hp]; have := HORD.out; omega
    · rw [Nat.zero_add]
      exact (hby1.cell (p := ⟨pr + 1, j, none⟩) (show pr + 1 < w1.heap.size by rw [hp]; have := HORD.out; omega)).trans (HCL.out j x e)
  have HPW : Hid (PW w ((w1.alloc (.cells #[.slice (some ⟨pr + 1, 0, none⟩) ws.length ws.length, .bool false] 68)).alloc (.cells #[.int .u8 0, .int .i64 0, .string { data := #[] }, .string { data := #[] }, .string { data := #[] }, .int .i64 0, .int .u8 0] 24)) p (p + 1) pr (ws, false) #[.int .u8 0, .int .i64 0, .string { data := #[] }, .string { data := #[] }, .string { data := #[] }, .int .i64 0, .int .u8 0]) := by
    refine ⟨HRD.out, ?_, (HPR.out.later hby1).later hby2, (HG1.out.later hby1).later hby2, stepB (stepB HB1.out hby1) hby2, ?_, ?_, ?_, ?_⟩
    · rw [← hp, ← hsz2]; exact Blk.new _ _ 24
    all_goals (have := HORD.out; omega)
  have HSZ : Hid (∀ x ∈ ws, x.size ≤ 100000) := fun x hx => by
    rw [← HWS.out] at hx
    have := split_sz sp 0 _ s x hx
    omega
  rw [hpr, hp]
  clear hpr hby1 hby2 hsz2 HRD HPR HG1 HB1 HCL HS1
  generalize (w1.alloc (.cells #[.slice (some ⟨pr + 1, 0, none⟩) ws.length ws.length, .bool false] 68)).alloc (.cells #[.int .u8 0, .int .i64 0, .string { data := #[] }, .string { data := #[] }, .string { data := #[] }, .int .i64 0, .int .u8 0] 24) = w3 at *
  clear hp HLO
  obtain ⟨px, hpx⟩ : ∃ x, p + 1 = x := ⟨_, rfl⟩
  rw [hpx] at HPW ⊢
  clear hpx
  have HNX := Lib.hid (next_any (ws, false) p w3 HPW.out.rd)
  go_wp2_with fail
  refine HNX.out.mono ?_
  rintro e w4 ⟨rfl, hr, hgr⟩
  have HP4 := Lib.hid (HPW.out.call hr hgr)
  have HSZ1 := Lib.hid (next_sz (r := (ws, false)) HSZ.out).2
  clear hr hgr HNX HPW
  obtain ⟨r1, hr1⟩ : ∃ r, nextR (ws, false) = r := ⟨_, rfl⟩
  rw [hr1] at HP4 HSZ1 ⊢
  have HR1 := Lib.hid hr1
  clear hr1
  obtain ⟨wd, r1⟩ := r1
  simp only at HP4 HSZ1 ⊢
  go_wp2_with fail
  refine (kind_any wd w4 HP4.out.gl).mono ?_
  rintro e w5 ⟨rfl, hb⟩
  have HP5 := Lib.hid (HP4.out.later hb)
  clear hb HP4
  obtain ⟨k, hk⟩ : ∃ k, kindW wd = k := ⟨_, rfl⟩
  rw [hk]
  have HK := Lib.hid hk
  have HKL : Hid (k ≤ 10) := by show _ ≤ _; rw [← hk]; exact kindW_le
  clear hk
  have c0 := HP5.out.bx.cell 0
  have f0 := HP5.out.bx.frozen 0
  simp only [List.getElem?_toArray, List.getElem?_cons_zero, List.getElem?_cons_succ] at c0
  go_upto_region 4 with (fail)
  have HP6 := Lib.hid (HP5.out.store 0 (.int .u8 (k : Int)))
  generalize w5.setCell ⟨px, 0, none⟩ (.int .u8 (k : Int)) = w6 at *
  clear c0 f0 HP5
  have c0 := HP6.out.bx.cell 0
  simp only [List.setIfInBounds_toArray, List.set_cons_zero, List.getElem?_toArray, List.getElem?_cons_zero, List.getElem?_cons_succ] at c0
  have HOF := Lib.hid (of_any k w6 (by have := HKL.out; omega) HP6.out.gl)
  unfold nmV at HOF
  go_wp2_with fail
  refine HOF.out.mono ?_
  rintro e w7 ⟨rfl, hb⟩
  have HP7 := Lib.hid (HP6.out.later hb)
  clear hb HP6 c0 HOF
  obtain ⟨nm, hnm⟩ : ∃ nm, nmK k = nm := ⟨_, rfl⟩
  rw [hnm]
  have HNM := Lib.hid hnm
  clear hnm
  obtain ⟨n0, n1, n2, n3, n4, n5⟩ := nm
  simp only
  go_upto_region 5 with (fail)
  have hby : Below w7.heap.size w7 (w7.alloc (.cells #[.bool n0, .bool n1, .bool n2, .bool n3, .bool n4, .bool n5] 72)) := (Below.refl _ _).alloc (Nat.le_refl _) _
  have HN : Hid (Blk (w7.alloc (.cells #[.bool n0, .bool n1, .bool n2, .bool n3, .bool n4, .bool n5] 72)) w7.heap.size #[.bool n0, .bool n1, .bool n2, .bool n3, .bool n4, .bool n5] 72) := Blk.new _ _ _
  have HP : Hid (PW w (w7.alloc (.cells #[.bool n0, .bool n1, .bool n2, .bool n3, .bool n4, .bool n5] 72)) p px pr r1 #[.int .u8 (k : Int), .int .i64 0, .string { data := #[] }, .string { data := #[] }, .string { data := #[] }, .int .i64 0, .int .u8 0]) := HP7.out.later hby
  have HPN : Hid (w7.heap.size ≠ p ∧ w7.heap.size ≠ px) := Lib.hid (by have h1 := HP7.out.rd.lt; have h2 := HP7.out.bx.lt; omega)
  clear hby HP7
  generalize w7.alloc (.cells #[.bool n0, .bool n1, .bool n2, .bool n3, .bool n4, .bool n5] 72) = wa at *
  obtain ⟨pn, hpn⟩ : ∃ x, w7.heap.size = x := ⟨_, rfl⟩
  rw [hpn] at HN HPN ⊢
  clear hpn
  have HSZ2 := HSZ1
  clear HSZ1
  have b0 := HN.out.cell 0
  simp only [List.getElem?_toArray, List.getElem?_cons_zero, List.getElem?_cons_succ] at b0
  have HCL_ := Lib.hid (num_any n0 r1 p wa HP.out.rd HP.out.gl (by have h1 := HP.out.o2; have h2 := HP.out.o4; omega) HSZ2.out)
  go_wp2_with fail
  refine HCL_.out.mono ?_
  rintro e wb ⟨rfl, hr, hgr⟩
  replace HP := Lib.hid (HP.out.call hr hgr)
  replace HN := Lib.hid (HN.out.grown hgr (fun e => HPN.out.1 (by cases e; rfl)))
  replace HSZ2 := Lib.hid (num_sz (is := n0) HSZ2.out)
  clear hr hgr HCL_ b0
  obtain ⟨x, hx⟩ : ∃ x, numR n0 r1 = x := ⟨_, rfl⟩
  rw [hx] at HP HSZ2 ⊢
  have HX0 := Lib.hid hx
  clear hx
  obtain ⟨tx, r2⟩ := x
  simp only at HP HSZ2 ⊢
  have c0 := HP.out.bx.cell 1
  simp only [List.getElem?_toArray, List.getElem?_cons_zero, List.getElem?_cons_succ] at c0
  have f0 := HP.out.bx.frozen 1
  go_upto_region 6 with (fail)
  have HP9 : Hid (PW w (wb.setCell ⟨px, 1, none⟩ (.int .i64 tx)) p px pr r2 #[.int .u8 (k : Int), .int .i64 tx, .string { data := #[] }, .string { data := #[] }, .string { data := #[] }, .int .i64 0, .int .u8 0]) := HP.out.store 1 (.int .i64 tx)
  replace HN := Lib.hid (HN.out.other (j := 1) HPN.out.2 (.int .i64 tx))
  clear HP c0 f0
  have HP := HP9
  clear HP9
  generalize wb.setCell ⟨px, 1, none⟩ (.int .i64 tx) = wbz at *
  have b0 := HN.out.cell 1
  simp only [List.getElem?_toArray, List.getElem?_cons_zero, List.getElem?_cons_succ] at b0
  have HCL_ := Lib.hid (txt_any n1 r2 p wbz HP.out.rd HP.out.gl (by have h1 := HP.out.o2; have h2 := HP.out.o4; omega) HSZ2.out)
  go_wp2_with fail
  refine HCL_.out.mono ?_
  rintro e wc_ ⟨rfl, hr, hgr⟩
  replace HP := Lib.hid (HP.out.call hr hgr)
  replace HN := Lib.hid (HN.out.grown hgr (fun e => HPN.out.1 (by cases e; rfl)))
  replace HSZ2 := Lib.hid (txt_sz (is := n1) HSZ2.out)
  clear hr hgr HCL_ b0
  obtain ⟨x, hx⟩ : ∃ x, txtR n1 r2 = x := ⟨_, rfl⟩
  rw [hx] at HP HSZ2 ⊢
  have HX1 := Lib.hid hx
  clear hx
  obtain ⟨ke, r3⟩ := x
  simp only at HP HSZ2 ⊢
  have c0 := HP.out.bx.cell 2
  simp only [List.getElem?_toArray, List.getElem?_cons_zero, List.getElem?_cons_succ] at c0
  have f0 := HP.out.bx.frozen 2
  go_upto_region 7 with (fail)
  have HP9 : Hid (PW w (wc_.setCell ⟨px, 2, none⟩ (.string ke)) p px pr r3 #[.int .u8 (k : Int), .int .i64 tx, .string ke, .string { data := #[] }, .string { data := #[] }, .int .i64 0, .int .u8 0]) := HP.out.store 2 (.string ke)
  replace HN := Lib.hid (HN.out.other (j := 2) HPN.out.2 (.string ke))
  clear HP c0 f0
  have HP := HP9
  clear HP9
  generalize wc_.setCell ⟨px, 2, none⟩ (.string ke) = wc_z at *
  have b0 := HN.out.cell 2
  simp only [List.getElem?_toArray, List.getElem?_cons_zero, List.getElem?_cons_succ] at b0
  have HCL_ := Lib.hid (txt_any n2 r3 p wc_z HP.out.rd HP.out.gl (by have h1 := HP.out.o2; have h2 := HP.out.o4; omega) HSZ2.out)
  go_wp2_with fail
  refine HCL_.out.mono ?_
  rintro e wd_ ⟨rfl, hr, hgr⟩
  replace HP := Lib.hid (HP.out.call hr hgr)
  replace HN := Lib.hid (HN.out.grown hgr (fun e => HPN.out.1 (by cases e; rfl)))
  replace HSZ2 := Lib.hid (txt_sz (is := n2) HSZ2.out)
  clear hr hgr HCL_ b0
  obtain ⟨x, hx⟩ : ∃ x, txtR n2 r3 = x := ⟨_, rfl⟩
  rw [hx] at HP HSZ2 ⊢
  have HX2 := Lib.hid hx
  clear hx
  obtain ⟨en, r4⟩ := x
  simp only at HP HSZ2 ⊢
  have c0 := HP.out.bx.cell 3
  simp only [List.getElem?_toArray, List.getElem?_cons_zero, List.getElem?_cons_succ] at c0
  have f0 := HP.out.bx.frozen 3
  go_upto_region 8 with (fail)
  have HP9 : Hid (PW w (wd_.setCell ⟨px, 3, none⟩ (.string en)) p px pr r4 #[.int .u8 (k : Int), .int .i64 tx, .string ke, .string en, .string { data := #[] }, .int .i64 0, .int .u8 0]) := HP.out.store 3 (.string en)
  replace HN := Lib.hid (HN.out.other (j := 3) HPN.out.2 (.string en))
  clear HP c0 f0
  have HP := HP9
  clear HP9
  generalize wd_.setCell ⟨px, 3, none⟩ (.string en) = wd_z at *
  have b0 := HN.out.cell 3
  simp only [List.getElem?_toArray, List.getElem?_cons_zero, List.getElem?_cons_succ] at b0
  have HCL_ := Lib.hid (txt_any n3 r4 p wd_z HP.out.rd HP.out.gl (by have h1 := HP.out.o2; have h2 := HP.out.o4; omega) HSZ2.out)
  go_wp2_with fail
  refine HCL_.out.mono ?_
  rintro e we ⟨rfl, hr, hgr⟩
  replace HP := Lib.hid (HP.out.call hr hgr)
  replace HN := Lib.hid (HN.out.grown hgr (fun e => HPN.out.1 (by cases e; rfl)))
  replace HSZ2 := Lib.hid (txt_sz (is := n3) HSZ2.out)
  clear hr hgr HCL_ b0
  obtain ⟨x, hx⟩ : ∃ x, txtR n3 r4 = x := ⟨_, rfl⟩
  rw [hx] at HP HSZ2 ⊢
  have HX3 := Lib.hid hx
  clear hx
  obtain ⟨va, r5⟩ := x
  simp only at HP HSZ2 ⊢
  have c0 := HP.out.bx.cell 4
  simp only [List.getElem?_toArray, List.getElem?_cons_zero, List.getElem?_cons_succ] at c0
  have f0 := HP.out.bx.frozen 4
  go_upto_region 9 with (fail)
  have HP9 : Hid (PW w (we.setCell ⟨px, 4, none⟩ (.string va)) p px pr r5 #[.int .u8 (k : Int), .int .i64 tx, .string ke, .string en, .string va, .int .i64 0, .int .u8 0]) := HP.out.store 4 (.string va)
  replace HN := Lib.hid (HN.out.other (j := 4) HPN.out.2 (.string va))
  clear HP c0 f0
  have HP := HP9
  clear HP9
  generalize we.setCell ⟨px, 4, none⟩ (.string va) = wez at *
  have b0 := HN.out.cell 4
  simp only [List.getElem?_toArray, List.getElem?_cons_zero, List.getElem?_cons_succ] at b0
  have HCL_ := Lib.hid (num_any n4 r5 p wez HP.out.rd HP.out.gl (by have h1 := HP.out.o2; have h2 := HP.out.o4; omega) HSZ2.out)
  go_wp2_with fail
  refine HCL_.out.mono ?_
  rintro e wf ⟨rfl, hr, hgr⟩
  replace HP := Lib.hid (HP.out.call hr hgr)
  replace HN := Lib.hid (HN.out.grown hgr (fun e => HPN.out.1 (by cases e; rfl)))
  replace HSZ2 := Lib.hid (num_sz (is := n4) HSZ2.out)
  clear hr hgr HCL_ b0
  obtain ⟨x, hx⟩ : ∃ x, numR n4 r5 = x := ⟨_, rfl⟩
  rw [hx] at HP HSZ2 ⊢
  have HX4 := Lib.hid hx
  clear hx
  obtain ⟨li, r6⟩ := x
  simp only at HP HSZ2 ⊢
  have c0 := HP.out.bx.cell 5
  simp only [List.getElem?_toArray, List.getElem?_cons_zero, List.getElem?_cons_succ] at c0
  have f0 := HP.out.bx.frozen 5
  go_upto_region 10 with (fail)
  have HP9 : Hid (PW w (wf.setCell ⟨px, 5, none⟩ (.int .i64 li)) p px pr r6 #[.int .u8 (k : Int), .int .i64 tx, .string ke, .string en, .string va, .int .i64 li, .int .u8 0]) := HP.out.store 5 (.int .i64 li)
  replace HN := Lib.hid (HN.out.other (j := 5) HPN.out.2 (.int .i64 li))
  clear HP c0 f0
  have HP := HP9
  clear HP9
  generalize wf.setCell ⟨px, 5, none⟩ (.int .i64 li) = wfz at *
  have b0 := HN.out.cell 5
  simp only [List.getElem?_toArray, List.getElem?_cons_zero, List.getElem?_cons_succ] at b0
  have HCL_ := Lib.hid (num_any n5 r6 p wfz HP.out.rd HP.out.gl (by have h1 := HP.out.o2; have h2 := HP.out.o4; omega) HSZ2.out)
  go_wp2_with fail
  refine HCL_.out.mono ?_
  rintro e wg ⟨rfl, hr, hgr⟩
  replace HP := Lib.hid (HP.out.call hr hgr)
  replace HN := Lib.hid (HN.out.grown hgr (fun e => HPN.out.1 (by cases e; rfl)))
  replace HSZ2 := Lib.hid (num_sz (is := n5) HSZ2.out)
  clear hr hgr HCL_ b0
  obtain ⟨x, hx⟩ : ∃ x, numR n5 r6 = x := ⟨_, rfl⟩
  rw [hx] at HP HSZ2 ⊢
  have HX5 := Lib.hid hx
  clear hx
  obtain ⟨eg, r7⟩ := x
  simp only at HP HSZ2 ⊢
  obtain ⟨e8, he8⟩ : ∃ e8 : Nat, eg % 256 = (e8 : Int) := ⟨(eg % 256).toNat, by omega⟩
  have he9 : e8 ≤ 255 := by omega
  have HFIN : Hid (okP s = (overR r7 && decide (eg = (e8 : Int)) && mayC (k, tx, ke, en, va, li, e8)) ∧ clP s = (k, tx, ke, en, va, li, e8)) := by
    have a1 : rd1 s = r1 := by unfold rd1; rw [HWS.out, HR1.out]
    have a0 : kd1 s = k := by unfold kd1; rw [HWS.out, HR1.out]; exact HK.out
    have a2 : rd2 s = r2 := by unfold rd2; rw [a0, a1, HNM.out]; simp only; rw [HX0.out]
    have a3 : rd3 s = r3 := by unfold rd3; rw [a0, a2, HNM.out]; simp only; rw [HX1.out]
    have a4 : rd4 s = r4 := by unfold rd4; rw [a0, a3, HNM.out]; simp only; rw [HX2.out]
    have a5 : rd5 s = r5 := by unfold rd5; rw [a0, a4, HNM.out]; simp only; rw [HX3.out]
    have a6 : rd6 s = r6 := by unfold rd6; rw [a0, a5, HNM.out]; simp only; rw [HX4.out]
    have a7 : rd7 s = r7 := by unfold rd7; rw [a0, a6, HNM.out]; simp only; rw [HX5.out]
    have a8 : eng1 s = eg := by unfold eng1; rw [a0, a6, HNM.out]; simp only; rw [HX5.out]
    have a9 : clP s = (k, tx, ke, en, va, li, e8) := by
      unfold clP
      rw [a8, a0, a1, a2, a3, a4, a5, HNM.out]
      simp only
      rw [HX0.out, HX1.out, HX2.out, HX3.out, HX4.out, he8]
      rfl
    refine ⟨?_, a9⟩
    unfold okP
    rw [a9, a7, a8, he8]
    rfl
  have HOV := Lib.hid (over_any r7 p wg HP.out.rd)
  have c0 := HP.out.bx.cell 6
  simp only [List.getElem?_toArray, List.getElem?_cons_zero, List.getElem?_cons_succ] at c0
  have f0 := HP.out.bx.frozen 6
  have u8w : IntKind.u8.wrap eg = (e8 : Int) := by rw [IntKind.wrap_u8]; exact he8
  go_upto_region 12 with (fail)
  have HP9 : Hid (PW w (wg.setCell ⟨px, 6, none⟩ (.int .u8 (e8 : Int))) p px pr r7 #[.int .u8 (k : Int), .int .i64 tx, .string ke, .string en, .string va, .int .i64 li, .int .u8 (e8 : Int)]) := HP.out.store 6 (.int .u8 (e8 : Int))
  clear HP c0 f0 HOV HN HSZ2
  have HP := HP9
  clear HP9
  generalize wg.setCell ⟨px, 6, none⟩ (.int .u8 (e8 : Int)) = wh at *
  have HOV := Lib.hid (over_any r7 p wh HP.out.rd)
  have HMY := Lib.hid (may_any (k, tx, ke, en, va, li, e8) wh (by have := HKL.out; show k ≤ 255; omega) he9 HP.out.gl)
  unfold clV at HMY
  simp only at HMY
  obtain ⟨ov, hov⟩ : ∃ b, overR r7 = b := ⟨_, rfl⟩
  obtain ⟨me, hme⟩ : ∃ b, decide (eg = (e8 : Int)) = b := ⟨_, rfl⟩
  obtain ⟨my, hmy⟩ : ∃ b, mayC (k, tx, ke, en, va, li, e8) = b := ⟨_, rfl⟩
  rw [hov] at HOV
  rw [hmy] at HMY
  have HFI : Hid (okP s = (ov && me && my) ∧ clP s = (k, tx, ke, en, va, li, e8)) := by
    have h := HFIN.out
    rw [hov, hme, hmy] at h
    exact h
  have e1 : (eg != (e8 : Int)) = !me := by rw [← hme]; cases h : decide (eg = (e8 : Int)) <;> simp_all
  have e2 : (eg == (e8 : Int)) = me := by rw [← hme]; cases h : decide (eg = (e8 : Int)) <;> simp_all
  clear hov hme hmy HFIN he8
  have c0 := HP.out.bx.cell 0
  have c1 := HP.out.bx.cell 1
  have c2 := HP.out.bx.cell 2
  have c3 := HP.out.bx.cell 3
  have c4 := HP.out.bx.cell 4
  have c5 := HP.out.bx.cell 5
  have c6 := HP.out.bx.cell 6
  simp only [List.getElem?_toArray, List.getElem?_cons_zero, List.getElem?_cons_succ] at c0 c1 c2 c3 c4 c5 c6
  go_wp2_with fail
  refine HOV.out.mono ?_
  rintro e wi ⟨rfl, rfl⟩
  clear HOV
  have hbt : Tryd.prog.built 24 [] = some #[.int .u8 0, .int .i64 0, .string { data := #[] }, .string { data := #[] }, .string { data := #[] }, .int .i64 0, .int .u8 0] := by kernel_rfl
  have r0 := HP.out.br.cell 0
  have r1_ := HP.out.br.cell 1
  have r2_ := HP.out.br.cell 2
  have r3_ := HP.out.br.cell 3
  have r4_ := HP.out.br.cell 4
  have r5_ := HP.out.br.cell 5
  have r6_ := HP.out.br.cell 6
  simp only [List.getElem?_toArray, List.getElem?_cons_zero, List.getElem?_cons_succ] at r0 r1_ r2_ r3_ r4_ r5_ r6_
  have fr0 := HP.out.br.frozen 0
  have fr1 := HP.out.br.frozen 1
  have fr2 := HP.out.br.frozen 2
  have fr3 := HP.out.br.frozen 3
  have fr4 := HP.out.br.frozen 4
  have fr5 := HP.out.br.frozen 5
  have fr6 := HP.out.br.frozen 6
  cases ov
  · have HS7 := Lib.hid (set7 HP.out.br rfl (.int .u8 0) (.int .i64 0) (.string { data := #[] }) (.string { data := #[] }) (.string { data := #[] }) (.int .i64 0) (.int .u8 0) HP.out.lo HP.out.o1)
    have HNO : Hid (parV s = .tuple #[clV cl0, .int .i64 4]) := parV_no (by rw [HFI.out.1]; rfl)
    go_wp2
    refine bodyPost_ret (results_cell_row2 rfl _ _ pr 24 _ (0, 0) _ rfl HS7.out.1 Tryd.underlying24 rfl (by kernel_rfl) rfl) rfl ?_
    exact ⟨by rw [HNO.out]; rfl, HS7.out.2⟩
  · cases me
    · have HS7 := Lib.hid (set7 HP.out.br rfl (.int .u8 0) (.int .i64 0) (.string { data := #[] }) (.string { data := #[] }) (.string { data := #[] }) (.int .i64 0) (.int .u8 0) HP.out.lo HP.out.o1)
      have HNO : Hid (parV s = .tuple #[clV cl0, .int .i64 4]) := parV_no (by rw [HFI.out.1]; rfl)
      go_wp2
      refine bodyPost_ret (results_cell_row2 rfl _ _ pr 24 _ (0, 0) _ rfl HS7.out.1 Tryd.underlying24 rfl (by kernel_rfl) rfl) rfl ?_
      exact ⟨by rw [HNO.out]; rfl, HS7.out.2⟩
    · clear r0 r1_ r2_ r3_ r4_ r5_ r6_ fr0 fr1 fr2 fr3 fr4 fr5 fr6
      go_wp2_with fail
      refine HMY.out.mono ?_
      rintro e wj ⟨rfl, hb⟩
      replace HP := Lib.hid (HP.out.later hb)
      clear hb HMY c0 c1 c2 c3 c4 c5 c6
      have r0 := HP.out.br.cell 0
      have r1_ := HP.out.br.cell 1
      have r2_ := HP.out.br.cell 2
      have r3_ := HP.out.br.cell 3
      have r4_ := HP.out.br.cell 4
      have r5_ := HP.out.br.cell 5
      have r6_ := HP.out.br.cell 6
      simp only [List.getElem?_toArray, List.getElem?_cons_zero, List.getElem?_cons_succ] at r0 r1_ r2_ r3_ r4_ r5_ r6_
      have fr0 := HP.out.br.frozen 0
      have fr1 := HP.out.br.frozen 1
      have fr2 := HP.out.br.frozen 2
      have fr3 := HP.out.br.frozen 3
      have fr4 := HP.out.br.frozen 4
      have fr5 := HP.out.br.frozen 5
      have fr6 := HP.out.br.frozen 6
      cases my
      · have HS7 := Lib.hid (set7 HP.out.br rfl (.int .u8 0) (.int .i64 0) (.string { data := #[] }) (.string { data := #[] }) (.string { data := #[] }) (.int .i64 0) (.int .u8 0) HP.out.lo HP.out.o1)
        have HNO : Hid (parV s = .tuple #[clV cl0, .int .i64 4]) := parV_no (by rw [HFI.out.1]; rfl)
        go_wp2
        refine bodyPost_ret (results_cell_row2 rfl _ _ pr 24 _ (0, 0) _ rfl HS7.out.1 Tryd.underlying24 rfl (by kernel_rfl) rfl) rfl ?_
        exact ⟨by rw [HNO.out]; rfl, HS7.out.2⟩
      · have HS7 := Lib.hid (set7 HP.out.br rfl (.int .u8 (k : Int)) (.int .i64 tx) (.string ke) (.string en) (.string va) (.int .i64 li) (.int .u8 (e8 : Int)) HP.out.lo HP.out.o1)
        have HYE : Hid (parV s = .tuple #[clV (k, tx, ke, en, va, li, e8), .int .i64 0]) := by
          show _ = _
          rw [parV_yes (by rw [HFI.out.1]; rfl), HFI.out.2]
        have c0 := HP.out.bx.cell 0
        have c1 := HP.out.bx.cell 1
        have c2 := HP.out.bx.cell 2
        have c3 := HP.out.bx.cell 3
        have c4 := HP.out.bx.cell 4
        have c5 := HP.out.bx.cell 5
        have c6 := HP.out.bx.cell 6
        simp only [List.getElem?_toArray, List.getElem?_cons_zero, List.getElem?_cons_succ] at c0 c1 c2 c3 c4 c5 c6
        go_wp2
        refine bodyPost_ret (results_cell_row2 rfl _ _ pr 24 _ (0, 0) _ rfl HS7.out.1 Tryd.underlying24 rfl (by kernel_rfl) rfl) rfl ?_
        exact ⟨by rw [HYE.out]; rfl, HS7.out.2⟩
end Go.Proofs.YtkgdmdcnhbaidaaDoor
