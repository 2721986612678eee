/- The document's Try. -/
import Derived.Test.YtgjponobiplipaaP3
import Derived.StillTailTactics
import Derived.Deep.RegionHeldLaw
namespace Go.Proofs.Ytgjponobiplipaa
open Go.ChangeShapes Go.WideShapes Go.ChangeAt Go.RowKit Go.Maps
set_option linter.unusedVariables false
set_option linter.unusedSimpArgs false

theorem hold_of {W : World} {g : Nat} {z t zk zi : Int} (h1 : z / 18446744073709551616 = zk) (h2 : z % 18446744073709551616 = zi) (h : Blk W g #[.int .u8 zk, .int .u64 zi, .int .i64 t] 61) : HSl W (some ⟨g, 0, none⟩) 1 [(z, t)] := by
  subst h1 h2
  exact Blk.hsl (p := (z, t)) h
theorem dr (W : World) : Below W.heap.size W W.drew := Below.drew (Below.refl _ _)
theorem al (W : World) (o : Obj) : Below W.heap.size W (W.alloc o).drew := Below.drew ((Below.refl _ _).alloc (Nat.le_refl _) o)
macro "hb_" : tactic => `(tactic| first | exact Below.refl _ _ | exact Below.drew (Below.refl _ _) | exact (Below.refl _ _).alloc (Nat.le_refl _) _ | exact Below.drew ((Below.refl _ _).alloc (Nat.le_refl _) _) | exact Below.alloc (Below.drew (Below.refl _ _)) (Nat.le_refl _) _)
theorem ownA (W : World) : HOwn (W.alloc (.cells #[] 61)).drew W.heap.size (.slice (some ⟨W.heap.size, 0, none⟩) 0 0) 0 [] := (HOwn.fresh W (Nat.le_refl _) rfl).later (dr _)
theorem ownB (W : World) (o : Obj) : HOwn ((W.alloc (.cells #[] 61)).alloc o).drew W.heap.size (.slice (some ⟨W.heap.size, 0, none⟩) 0 0) 0 [] := (HOwn.fresh W (Nat.le_refl _) rfl).later (al _ _)
theorem ownC (W : World) (o : Obj) : HOwn ((W.alloc o).alloc (.cells #[] 61)).drew W.heap.size (.slice (some ⟨W.heap.size + 1, 0, none⟩) 0 0) 0 [] := (HOwn.fresh _ (by simp) (by simp)).later (dr _)
theorem hx_new {W : World} {z t zk zi : Int} (h1 : z / 18446744073709551616 = zk) (h2 : z % 18446744073709551616 = zi) : HSl (W.alloc (.cells #[.int .u8 zk, .int .u64 zi, .int .i64 t] 61)) (some ⟨W.heap.size, 0, none⟩) 1 [(z, t)] := hold_of h1 h2 (Blk.new _ _ _)
theorem hxB {W W2 : World} {z t zk zi : Int} (h1 : z / 18446744073709551616 = zk) (h2 : z % 18446744073709551616 = zi) (hg : ((W.alloc (.cells #[] 61)).alloc (.cells #[.int .u8 zk, .int .u64 zi, .int .i64 t] 61)).drew.grownBy W2 (Value.slice (some ⟨W.heap.size, 0, none⟩) 0 0).ownBlock) : HSl W2 (some ⟨W.heap.size + 1, 0, none⟩) 1 [(z, t)] :=
  hold_of h1 h2 (((Blk.new2 _ _ _ (by simp)).later (dr _)).grown hg (by intro e; have e2 : W.heap.size + 1 = W.heap.size := Option.some.inj e; omega))
theorem hxC {W W2 : World} {z t zk zi : Int} (h1 : z / 18446744073709551616 = zk) (h2 : z % 18446744073709551616 = zi) (hg : ((W.alloc (.cells #[.int .u8 zk, .int .u64 zi, .int .i64 t] 61)).alloc (.cells #[] 61)).drew.grownBy W2 (Value.slice (some ⟨W.heap.size + 1, 0, none⟩) 0 0).ownBlock) : HSl W2 (some ⟨W.heap.size, 0, none⟩) 1 [(z, t)] :=
  hold_of h1 h2 (((Blk.new W _ _).later (al _ _)).grown hg (by intro e; have e2 : W.heap.size = W.heap.size + 1 := Option.some.inj e; omega))
section
variable {w w7 : World} {ops : Array Oper} {rest : List Oper} {o : Oper} {a : Act} {Q : Exit → Act → World → Prop}
theorem step_append_sk {K : Act → World → Prop} {D : Prop} (hgd : o.guard = .none) (s x : Operand)
    (ho : o.op = .call { callee := .builtin .append, args := #[s, x], argTypes := #[40, 40] })
    (v : Value) (n : Nat) (xs : List Ct) (hs : a.eval s = v) (hown : HOwn w w7.heap.size v n xs)
    (A : Option Addr) (m c : Nat) (ys : List Ct) (hx : a.eval x = .slice A m c) (hy : HSl w A m ys) (hnil : A = .none → m = 0 ∧ c = 0) (hb : n + m ≤ 2000) (hbl : Below w7.heap.size w7 w)
    (h : ∀ v' w', HOwn w' w7.heap.size v' (n + m) (xs ++ ys) → Below w7.heap.size w7 w' → w.grownBy w' v.ownBlock → K (a.put o.dst v') w') :
    if Region.wanted o (yielded ops a.tmps) = true then Oper.wp Try.prog o a w K Q else D :=
  step_append_hd hgd s x ho w7.heap.size v n xs hs hown A m c ys hx hy hnil hb hbl.size (fun v' w' h1 h2 => h v' w' h1 (hbl.grown h2 hbl.size (fun j e => (hown.lt j e).1)) h2)
end
set_option maxRecDepth 100000 in
set_option maxHeartbeats 8000000 in
theorem rtry_any (B p : Nat) (v : Value) (L : List Ct) (z t : Int) (w : World) (h : RfAt w B p v L) (hn : L.length ≤ 900) : Calls Try.prog 21 #[.pointer (some ⟨p, 0, none⟩), .agg #[.int .u8 (z / 18446744073709551616), .int .u64 (z % 18446744073709551616)], .int .i64 t] w (RfEnd B p (tryS L z t) (tryB L z t) w) := by
  obtain ⟨A, c, rfl, hlc, hnA, hs⟩ := h.row
  have hb0 : Below w.heap.size w (w.alloc (.cells #[.int .u8 (z / 18446744073709551616), .int .u64 (z % 18446744073709551616)] 37)) := (Below.refl _ _).alloc (Nat.le_refl _) _
  have HB0 := Lib.hid hb0
  have H := Lib.hid h
  have H1 := Lib.hid (h.later hb0)
  have HX := Lib.hid (Blk.new w #[.int .u8 (z / 18446744073709551616), .int .u64 (z % 18446744073709551616)] 37)
  have x0 := HX.out.cell 0
  have x1 := HX.out.cell 1
  simp only [List.getElem?_toArray, List.getElem?_cons_zero, List.getElem?_cons_succ] at x0 x1
  have HCO : Hid (∀ W, RfAt W B p (.slice A L.length c) L → Calls Try.prog 22 #[.pointer (some ⟨p, 0, none⟩), .agg #[.int .u8 (z / 18446744073709551616), .int .u64 (z % 18446744073709551616)]] W fun x w' => x = .returned (.tuple #[.int .i64 (ofC L z), .bool (isC L z)]) ∧ Below W.heap.size W w') := fun W h => rowner_any B p _ L z W h (by omega)
  have HLE : Hid (∀ y W, Calls Try.prog 28 #[.agg #[.int .u8 (y / 18446744073709551616), .int .u64 (y % 18446744073709551616)], .agg #[.int .u8 (z / 18446744073709551616), .int .u64 (z % 18446744073709551616)]] W fun x w' => x = .returned (.bool (decide (y < z))) ∧ Below W.heap.size W w') := fun y W => rless_any y z W
  have HS : Hid (tryS L z t = if isC L z then L else putC L z t) := rfl
  have HA : Hid (tryB L z t = if isC L z then decide (ofC L z = t) else true) := rfl
  have HIC : Hid (isC L z = isC L z) := rfl
  have HPUT : Hid (isC L z = false → putC L z t = insC (z, t) L) := fun e => by unfold putC; rw [del_no e]
  have HNZ : Hid (isC L z = false → ∀ j, j < L.length → (L.getD j ct0).1 ≠ z) := fun e j hj => by
    have hm : L.getD j ct0 ∈ L := by rw [List.getD_eq_getElem?_getD, List.getElem?_eq_getElem hj]; exact List.getElem_mem hj
    have := List.any_eq_false.1 e _ hm
    simpa using this
  generalize tryS L z t = S at *
  generalize tryB L z t = R at *
  clear h hs hb0 HIC
  generalize hzk : z / 18446744073709551616 = zk at *
  generalize hzi : z % 18446744073709551616 = zi at *
  have HZK := Lib.hid hzk
  have HZI := Lib.hid hzi
  clear hzk hzi
  generalize ofC L z = oc at *
  generalize isC L z = ic at *
  go_enter Try.func21, Try.ntmps21
  go_wp2_with fail
  refine (HCO.out _ H1.out).mono ?_
  rintro x w2 ⟨rfl, hb⟩
  have H2 := Lib.hid (H1.out.later hb)
  have HX2 := Lib.hid (HX.out.later hb)
  have HB2 := Lib.hid (stepB HB0.out hb)
  clear hb x0 x1 H1 HX HB0 HCO
  cases ic with
  | true =>
    have HS2 : Hid (L = S) := HS.out.symm
    have dd : decide (oc = t) = (oc == t) := by by_cases e : oc = t <;> simp [e]
    have HA2 : Hid ((oc == t) = R) := (HA.out.trans dd).symm
    clear HA HS dd
    go_wp2
    go_ret
    exact rf_end HA2.out HS2.out H2.out (grown_of_below HB2.out _)
  | false =>
    have HA2 : Hid (true = R) := HA.out.symm
    have HS2 : Hid (insC (z, t) L = S) := ((HS.out.trans rfl).trans (HPUT.out rfl)).symm
    have HNE := Lib.hid (HNZ.out rfl)
    clear HA HS HPUT HNZ
    go_upto_block 0 with (fail)
    go_cut [9] (fun s9 wx => ∃ k : Nat, k ≤ L.length ∧ s9 = .int .i64 k ∧ (∀ j, j < k → (L.getD j ct0).1 < z) ∧ (k < L.length → z < (L.getD k ct0).1) ∧ Below w2.heap.size w2 wx)
    case first =>
      go_wp2
      go_loopw [9] (fun i wr => ∃ k : Nat, k ≤ L.length ∧ i = .int .i64 k ∧ (∀ j, j < k → (L.getD j ct0).1 < z) ∧ Below w2.heap.size w2 wr) (fun i _ => L.length - (intOf i).toNat)
      case atStart => exact ⟨0, Nat.zero_le _, rfl, fun j hj => by omega, Below.refl _ _⟩
      case round =>
        obtain ⟨k, hk, rfl, hall, hb⟩ := hrel
        have HALL := Lib.hid hall
        have HB3 := Lib.hid hb
        have H3 := Lib.hid (H2.out.later hb)
        have k0 := H3.out.blk.cell 0
        have n0 := (HX2.out.later hb).cell 0
        have n1 := (HX2.out.later hb).cell 1
        simp only [List.getElem?_toArray, List.getElem?_cons_zero, List.getElem?_cons_succ] at k0 n0 n1
        clear hall hb
        by_cases hlt : k < L.length
        · have d2 : decide ((k : Int) < (L.length : Int)) = true := decide_eq_true (by omega)
          have wk : IntKind.i64.wrap ((k : Int) + 1) = (k : Int) + 1 := IntWalk.i64_in _ (by omega)
          obtain ⟨_, _, e, _, _, hsl⟩ := H3.out.row
          cases e
          obtain ⟨g, off, rfl, hg, hcell⟩ := hsl.2 (by omega)
          obtain ⟨x0, x1, x2⟩ := hcell k hlt
          have i1 := hindex g off L.length c k (k : Int) rfl hlt
          have hnz := HNE.out k hlt
          have HLY := Lib.hid (HLE.out (L.getD k ct0).1)
          obtain ⟨⟨y, u⟩, hy⟩ : ∃ x, L.getD k ct0 = x := ⟨_, rfl⟩
          rw [hy] at x0 x1 x2 hnz HLY
          have HY := Lib.hid hy
          try simp only at x0 x1 x2 hnz HLY
          clear hcell hg hsl hy
          by_cases e : y < z
          · rw [decide_eq_true e] at HLY
            have HN2 : Hid (∀ j, j < k + 1 → (L.getD j ct0).1 < z) := fun j hj => by
              by_cases ej : j = k
              · subst ej; rw [HY.out]; exact e
              · exact HALL.out j (by omega)
            clear e hnz
            generalize y / 18446744073709551616 = yk at *
            generalize y % 18446744073709551616 = yi at *
            go_upto_region 5 with (fail)
            go_still_tail 17, (by kernel_rfl)
            change wpList _ _ _ _ _ wr.drew
            have hb4 : Below wr.heap.size wr wr.drew := Below.drew (Below.refl _ _)
            have HB4 := Lib.hid (stepB HB3.out hb4)
            clear hb4 x0 x1 x2 k0 n0 n1 i1 HB3 H3
            generalize wr.drew = w4 at *
            go_wp2_with fail
            refine (HLY.out _).mono ?_
            rintro x w5 ⟨rfl, hb⟩
            have HB5 := Lib.hid (stepB HB4.out hb)
            clear hb HB4 HLY
            go_wp2
            go_roundw
            case rel => exact ⟨k + 1, by omega, by go_num, HN2.out, HB5.out⟩
            case measure => simp [intOf]; omega
          · rw [decide_eq_false e] at HLY
            have HN2 : Hid (k < L.length → z < (L.getD k ct0).1) := fun _ => by rw [HY.out]; show z < y; omega
            clear e hnz
            generalize y / 18446744073709551616 = yk at *
            generalize y % 18446744073709551616 = yi at *
            go_upto_region 5 with (fail)
            go_still_tail 17, (by kernel_rfl)
            change wpList _ _ _ _ _ wr.drew
            have hb4 : Below wr.heap.size wr wr.drew := Below.drew (Below.refl _ _)
            have HB4 := Lib.hid (stepB HB3.out hb4)
            clear hb4 x0 x1 x2 k0 n0 n1 i1 HB3 H3
            generalize wr.drew = w4 at *
            go_wp2_with fail
            refine (HLY.out _).mono ?_
            rintro x w5 ⟨rfl, hb⟩
            have HB5 := Lib.hid (stepB HB4.out hb)
            clear hb HB4 HLY
            go_wp2
            go_meet
            exact ⟨k, by omega, rfl, HALL.out, HN2.out, HB5.out⟩
        · obtain rfl : k = L.length := by omega
          have d2 : decide ((L.length : Int) < (L.length : Int)) = false := decide_eq_false (by omega)
          go_upto_region 5 with (fail)
          go_quiet (fail)
          go_wp2
          go_meet
          exact ⟨L.length, Nat.le_refl _, rfl, HALL.out, fun h => absurd h hlt, below_drewN HB3.out nq⟩
    case rest =>
      obtain ⟨k, hk, rfl, hall, hend, hb⟩ := hcut
      obtain ⟨w5, rfl⟩ : ∃ w5 : World, w5 = wc := ⟨_, rfl⟩
      have HINS := Lib.hid (ins_at (z, t) rfl hk hall hend)
      have H5 := Lib.hid (H2.out.later hb)
      have X5 := Lib.hid (HX2.out.later hb)
      have HB5 := Lib.hid (stepB HB2.out hb)
      have hbf : Below w5.heap.size w5 (w5.alloc (.cells #[] 61)) := (Below.refl _ _).alloc (Nat.le_refl _) _
      have HBF := Lib.hid hbf
      have HO6 : Hid (HOwn (w5.alloc (.cells #[] 61)) w5.heap.size (.slice (some ⟨w5.heap.size, 0, none⟩) 0 0) 0 []) := HOwn.fresh w5 (Nat.le_refl _) rfl
      obtain ⟨_, _, e, _, _, hsl⟩ := (H5.out.later hbf).row
      cases e
      obtain ⟨A2, hr1, hn2, hs2⟩ := hslice_lo A L.length c k hk hlc hnA
      obtain ⟨hr2, hs3⟩ := hslice_hi A L.length c k hk hlc hnA
      have HSL2 := Lib.hid (hs2 _ L hsl)
      have HS3 := Lib.hid hs3
      have k0 := (H5.out.later hbf).blk.cell 0
      simp only [List.getElem?_toArray, List.getElem?_cons_zero] at k0
      have hnK : A = none → k = 0 ∧ c = 0 := fun e => by have := hnA e; omega
      clear hall hend hb hbf hs2 hs3 hsl H2 HX2 HB2 HLE HNE
      go_wp2_with (at_builtin; refine append_hd rfl (.tmp 42) (.tmp 48) rfl w5.heap.size _ 0 [] rfl HO6.out A2 (L.length - k) (c - k) (L.drop k) rfl HSL2.out hn2 (by omega) HBF.out.size ?_; intro v7 w7 ho7)
      intro hg7
      rw [Nat.zero_add, List.nil_append] at ho7
      have hb57 : Below w5.heap.size w5 w7 := HBF.out.grown hg7 HBF.out.size (fun j e => (HO6.out.lt j e).1)
      have P7 := Lib.hid (H5.out.later hb57)
      have X7 := Lib.hid (X5.out.later hb57)
      have HB7 := Lib.hid (stepB HB5.out hb57)
      have HR7 := Lib.hid ho7
      obtain ⟨A7, c7, rfl, hl7, hn7⟩ := ho7.sl
      have hpl := H.out.plt
      have HSLK : Hid (∀ W, Below w7.heap.size w7 W → HSl W A k (L.take k)) := fun W hb => by
        obtain ⟨_, _, e, _, _, hsl⟩ := (P7.out.later hb).row
        cases e
        exact HS3.out W L hsl
      have HSLR : Hid (∀ W, Below w7.heap.size w7 W → HSl W A7 (L.length - k) (L.drop k)) := fun W hb => (HR7.out.later hb).hsl
      have cE := (P7.out.later (al w7 (.cells #[] 61))).blk.cell 0
      have cH := (P7.out.later (al w7 (.cells #[.int .u8 zk, .int .u64 zi, .int .i64 t] 61))).blk.cell 0
      have cEH := (P7.out.later (stepB ((Below.refl _ _).alloc (Nat.le_refl _) (.cells #[] 61)) (al _ (.cells #[.int .u8 zk, .int .u64 zi, .int .i64 t] 61)))).blk.cell 0
      have cHE := (P7.out.later (stepB ((Below.refl _ _).alloc (Nat.le_refl _) (.cells #[.int .u8 zk, .int .u64 zi, .int .i64 t] 61)) (al _ (.cells #[] 61)))).blk.cell 0
      have c7d := (P7.out.later (dr w7)).blk.cell 0
      have nd0 := (X7.out.later (dr w7)).cell 0
      have nd1 := (X7.out.later (dr w7)).cell 1
      have nE0 := (X7.out.later (al w7 (.cells #[] 61))).cell 0
      have nE1 := (X7.out.later (al w7 (.cells #[] 61))).cell 1
      simp only [List.getElem?_toArray, List.getElem?_cons_zero, List.getElem?_cons_succ] at cE cH cEH cHE c7d nd0 nd1 nE0 nE1
      clear hr1 hn2 HSL2 HS3 HO6 HBF hg7 ho7 hb57 k0 H5 X5 HB5
      go_upto_region 8 with (fail)
      go_region_law (first
        | (refine step_append_sk rfl (.tmp 51) (.tmp 57) rfl (.slice (some ⟨_, 0, none⟩) 0 0) 0 [] rfl (ownC w7 _) A k c (L.take k) rfl (HSLK.out _ (stepB ((Below.refl _ _).alloc (Nat.le_refl _) _) (al _ _))) hnK (by omega) (stepB ((Below.refl _ _).alloc (Nat.le_refl _) _) (al _ _)) ?_; intro v58 w58 ho58 hb58 hg58; have n580 := (X7.out.later hb58).cell 0; have n581 := (X7.out.later hb58).cell 1; have hx58 := hxC HZK.out HZI.out hg58)
        | (refine step_append_sk rfl (.tmp 51) (.tmp 57) rfl (.slice (some ⟨_, 0, none⟩) 0 0) 0 [] rfl (ownB w7 _) A k c (L.take k) rfl (HSLK.out _ (stepB ((Below.refl _ _).alloc (Nat.le_refl _) _) (al _ _))) hnK (by omega) (stepB ((Below.refl _ _).alloc (Nat.le_refl _) _) (al _ _)) ?_; intro v58 w58 ho58 hb58 hg58; have n580 := (X7.out.later hb58).cell 0; have n581 := (X7.out.later hb58).cell 1; have hx58 := hxB HZK.out HZI.out hg58)
        | (refine step_append_sk rfl (.tmp 51) (.tmp 57) rfl (.slice (some ⟨_, 0, none⟩) 0 0) 0 [] rfl (ownA w7) A k c (L.take k) rfl (HSLK.out _ (al _ _)) hnK (by omega) (al _ _) ?_; intro v58 w58 ho58 hb58 hg58; have n580 := (X7.out.later hb58).cell 0; have n581 := (X7.out.later hb58).cell 1)
        | (refine step_append_sk rfl (.tmp 58) (.tmp 62) rfl v58 (0 + k) ([] ++ L.take k) rfl (HOwn.later ho58 (by hb_)) (some ⟨_, 0, none⟩) 1 1 [(z, t)] rfl (HSl.later hx58 (by hb_)) (fun e => by cases e) (by omega) (stepB hb58 (by hb_)) ?_; intro v63 w63 ho63 hb63 hg63)
        | (refine step_append_sk rfl (.tmp 58) (.tmp 62) rfl v58 (0 + k) ([] ++ L.take k) rfl (HOwn.later ho58 (by hb_)) (some ⟨_, 0, none⟩) 1 1 [(z, t)] rfl (hx_new HZK.out HZI.out) (fun e => by cases e) (by omega) (stepB hb58 (by hb_)) ?_; intro v63 w63 ho63 hb63 hg63)
        | (refine step_append_sk rfl (.tmp 63) (.tmp 64) rfl v63 (0 + k + 1) ([] ++ L.take k ++ [(z, t)]) rfl (HOwn.later ho63 (by hb_)) A7 (L.length - k) c7 (L.drop k) rfl (HSLR.out _ (stepB hb63 (by hb_))) hn7 (by omega) (stepB hb63 (by hb_)) ?_; intro v65 w65 ho65 hb65 hg65; have kf65 := (P7.out.later hb65).blk.frozen 0; have kc65 := (P7.out.later hb65).blk.cell 0; obtain ⟨A65, c65, rfl, _⟩ := ho65.sl))
      all_goals (
        have ho66 := ho65
        simp only [Nat.zero_add, List.nil_append] at ho66
        have hBp := H.out.hp
        have hw7 := HB7.out.size
        have HF : Hid (RfAt (w65.setCell ⟨p, 0, none⟩ (.slice A65 (k + 1 + (L.length - k)) c65)) B p (.slice A65 (k + 1 + (L.length - k)) c65) (L.take k ++ [(z, t)] ++ L.drop k)) := ⟨hBp, (P7.out.later hb65).blk.set (j := 0) _, by
          have e : (L.take k ++ [(z, t)] ++ L.drop k).length = k + 1 + (L.length - k) := ho66.1
          rw [e]
          exact (ho_fr ho66 (P7.out.later hb65).blk (by decide)).base (by omega)⟩
        have HG : Hid (w.grownBy (w65.setCell ⟨p, 0, none⟩ (.slice A65 (k + 1 + (L.length - k)) c65)) (some p)) := grown_step (grown_of_below (stepB HB7.out hb65) (some p)) (grown_set w65 p 0 _)
        have hM : L.take k ++ [(z, t)] ++ L.drop k = S := by rw [← HS2.out, HINS.out, List.append_assoc]; rfl
        have HM := Lib.hid hM
        clear hM
        clear ho65 ho66 hBp hw7 kf65 kc65 hb65 hg65 hg63 hb63 ho63 hg58 hb58 ho58
        go_wp2
        go_ret
        exact rf_end HA2.out HM.out HF.out HG.out)
end Go.Proofs.Ytgjponobiplipaa
