/- What there may be behind a history: Now. -/
import Derived.Test.YtoinjnocopejjaaPI
import Derived.StillTailTactics
import Derived.Deep.QuietTactic
import Derived.BigQuiet
namespace Go.Proofs.Ytoinjnocopejjaa
open Go.ChangeShapes Go.WideShapes Go.ChangeAt Go.RowKit Go.Maps
set_option linter.unusedVariables false
set_option linter.unusedSimpArgs false
theorem opN_take (l : List Dn) (k : Nat) : opN (l.take k) ≤ opN l := by
  unfold opN
  exact ((List.take_sublist k l).filter _).length_le
theorem sum_small {c : Conf} {P : Ps} {p : Pl} (h : POk c P p) (k : Nat) : 0 ≤ (sumR c P (newM c) (p.done.take k)).1 ∧ (sumR c P (newM c) (p.done.take k)).1 ≤ 3072 ∧ 0 ≤ (sumR c P (newM c) (p.done.take k)).2 ∧ (sumR c P (newM c) (p.done.take k)).2 ≤ 3072 := by
  have hmay : mayB c = true := h.cf ▸ h.ok.may
  have hm := may_lo hmay
  have hn := num_ok hmay
  obtain ⟨i1, i2, i3, i4⟩ := sumR_b (P := P) hmay (l := p.done.take k) (OkM.new hmay) rfl
  have ho := h.open_le
  have h1 := opN_take p.done k
  have m1 := mulB (a := (opN (p.done.take k) : Int)) (b := tskN c) (A := 6) (B := 512) (by omega) (by omega) (by have := hn.tsk; omega) hn.tsk.2
  have m2 := mulB (a := (opN (p.done.take k) : Int)) (b := c.ke * c.de) (A := 6) (B := 512) (by omega) (by omega) (by have := hn.all; omega) hn.all.2
  omega
theorem OkM.rN_512 {s : MS} (h : OkM s) : rN s ≤ 512 := h.sum_le
/-- where a call of what is done lies -/
theorem POk.cl {c : Conf} {LP : List PH} {p : Pl} (h : POk c (psV LP) p) {k : Nat} {d : Dn} (hk : p.done[k]? = some d) : ∃ (ti ci : Nat) (l : List Cl) (y : Hdr), d.task = ti ∧ d.call = ci ∧ LP[ti]? = some (l, y) ∧ l[ci]? = some (clP (psV LP) d) := by
  obtain ⟨⟨h1, h2, h3, h4⟩, _⟩ := h.dn k d hk
  have hl : d.task.toNat < LP.length := by
    refine Decidable.byContradiction (fun hn => ?_)
    have e : (psV LP).getD d.task.toNat [] = [] := by
      rw [List.getD_eq_getElem?_getD, List.getElem?_eq_none (by unfold psV; rw [List.length_map]; omega)]; rfl
    rw [e] at h4
    simp at h4
    omega
  have e : (psV LP).getD d.task.toNat [] = (LP[d.task.toNat]).1 := by
    unfold psV
    rw [List.getD_eq_getElem?_getD, List.getElem?_map, List.getElem?_eq_getElem hl]; rfl
  rw [e] at h4
  refine ⟨d.task.toNat, d.call.toNat, (LP[d.task.toNat]).1, (LP[d.task.toNat]).2, by omega, by omega, List.getElem?_eq_getElem hl, ?_⟩
  unfold clP
  rw [e, List.getD_eq_getElem?_getD, List.getElem?_eq_getElem (by omega)]; rfl
theorem PsOk.re {w0 W : World} {A : Option Addr} {n : Nat} {LP : List PH} (h : PsOk w0 W A n LP) (hb : Below w0.heap.size w0 W) : PsOk W W A n LP :=
  ⟨fun W' hf => h.row W' (Fw.of hb hf.bel), fun x hx W' hf => (h.inn x hx) W' (Fw.of hb hf.bel), h.cok⟩
theorem EvOk.re {w0 W : World} {A : Option Addr} {n : Nat} {L : List EH} (h : EvOk w0 W A n L) (hb : Below w0.heap.size w0 W) : EvOk W W A n L :=
  ⟨fun W' hf => h.row W' (Fw.of hb hf.bel), fun x hx W' hf => (h.prs x hx) W' (Fw.of hb hf.bel), h.rng⟩
theorem PsOk.at_ {W W' : World} {A : Option Addr} {n : Nat} {LP : List PH} (h : PsOk W W A n LP) (hb : Below W.heap.size W W') : PsOk W' W' A n LP := (h.fw (Fw.of (Below.refl _ _) hb)).re hb
theorem EvOk.at_ {W W' : World} {A : Option Addr} {n : Nat} {L : List EH} (h : EvOk W W A n L) (hb : Below W.heap.size W W') : EvOk W' W' A n L := (h.fw (Fw.of (Below.refl _ _) hb)).re hb
theorem Fw.b {W W' : World} (h : Fw W W W') : Below W.heap.size W W' := h.bel
theorem DnAt.later {w0 W W' : World} {v : Value} {D : List DH} (h : DnAt w0 W v D) (hb : Below W.heap.size W W') : DnAt w0 W' v D := ⟨h.1.later hb, fun z hz => (h.2 z hz).later hb⟩
theorem DnAt.kp {w0 W W' : World} {v : Value} {D : List DH} (h : DnAt w0 W v D) (hk : Kp W W') : DnAt w0 W' v D := ⟨h.1.kp hk (by decide) (by decide) (by decide) (by decide), fun z hz => (h.2 z hz).kp hk (by decide) (by decide) (by decide) (by decide)⟩
/-- Now ends so -/
def NwEnd (R : Int × Int × Int) (W : World) (e : Ending) (w' : World) : Prop := e = .returned (.tuple #[.int .i64 R.1, .int .i64 R.2.1, .int .i64 R.2.2]) ∧ Below W.heap.size W w'
set_option maxRecDepth 100000 in
set_option maxHeartbeats 16000000 in
theorem now_any {W : World} (c : Conf) (A : Option Addr) (n cc : Nat) (LP : List PH) (A2 : Option Addr) (n2 c2 : Nat) (L : List EH) (hP : PsOk W W A n LP) (hE : EvOk W W A2 n2 L) (hnb : n ≤ maxLen) (hl : L.length ≤ 5000) : Calls Try.prog 45 #[.agg #[.int .i64 c.ta, .int .i64 c.ac, .int .i64 c.ke, .int .i64 c.de, .int .i64 c.ts, .int .i64 c.kl, .int .i64 c.vl, .int .i64 c.fa], .slice A n cc, .slice A2 n2 c2] W (NwEnd (nowP c (psV LP) (evV L)) W) := by
  have hb1 : Below W.heap.size W (W.alloc (.cells #[.int .i64 c.ta, .int .i64 c.ac, .int .i64 c.ke, .int .i64 c.de, .int .i64 c.ts, .int .i64 c.kl, .int .i64 c.vl, .int .i64 c.fa] 45)) := (Below.refl _ _).alloc (Nat.le_refl _) _
  have HF : Hid (Below W.heap.size W (W.alloc (.cells #[.int .i64 c.ta, .int .i64 c.ac, .int .i64 c.ke, .int .i64 c.de, .int .i64 c.ts, .int .i64 c.kl, .int .i64 c.vl, .int .i64 c.fa] 45))) := Lib.hid hb1
  have HPS := Lib.hid hP
  have HES := Lib.hid hE
  have HLN : Hid (LP.length = n) := Lib.hid (hP.row W (Fw.refl (Below.refl _ _))).1
  have KC : Hid (Blk (W.alloc (.cells #[.int .i64 c.ta, .int .i64 c.ac, .int .i64 c.ke, .int .i64 c.de, .int .i64 c.ts, .int .i64 c.kl, .int .i64 c.vl, .int .i64 c.fa] 45)) W.heap.size #[.int .i64 c.ta, .int .i64 c.ac, .int .i64 c.ke, .int .i64 c.de, .int .i64 c.ts, .int .i64 c.kl, .int .i64 c.vl, .int .i64 c.fa] 45) := Lib.hid (Blk.new W _ 45)
  have HNB := Lib.hid hnb
  have HLL := Lib.hid hl
  obtain ⟨R, hR⟩ : ∃ R, nowP c (psV LP) (evV L) = R := ⟨_, rfl⟩
  rw [hR]
  unfold nowP at hR
  have HR := Lib.hid hR
  clear hP hE hnb hl hb1 hR
  go_enter Try.func45, Try.ntmps45
  go_upto_region 1 with (fail)
  generalize (W.alloc (.cells #[.int .i64 c.ta, .int .i64 c.ac, .int .i64 c.ke, .int .i64 c.de, .int .i64 c.ts, .int .i64 c.kl, .int .i64 c.vl, .int .i64 c.fa] 45)) = w1 at *
  obtain ⟨bx, hbx⟩ : ∃ bx, W.heap.size = bx := ⟨_, rfl⟩
  have HBX := Lib.hid hbx
  rw [hbx] at KC ⊢
  clear hbx
  have z0 := KC.out.cell 0; have z1 := KC.out.cell 1; have z2 := KC.out.cell 2; have z3 := KC.out.cell 3; have z4 := KC.out.cell 4; have z5 := KC.out.cell 5; have z6 := KC.out.cell 6; have z7 := KC.out.cell 7; simp only [List.getElem?_toArray, List.getElem?_cons_zero, List.getElem?_cons_succ] at z0 z1 z2 z3 z4 z5 z6 z7
  go_wp2_with fail
  refine (model_p c A n cc LP A2 n2 c2 L (Below.refl _ w1) (HPS.out.at_ HF.out) (HES.out.at_ HF.out) HNB.out HLL.out).mono ?_
  rintro e w2 ⟨hf, hh⟩
  have HF2 := Lib.hid (stepB HF.out hf.bel)
  have KC2 := Lib.hid (KC.out.later hf.bel)
  clear z0 z1 z2 z3 z4 z5 z6 z7 hf HF KC
  rcases hh with ⟨hm, rfl⟩ | ⟨hm, hpl, rfl⟩ | ⟨p, m1, own1, hm, hpl, rfl, _⟩
  · have HX : Hid (R = (0, 0, 1)) := Lib.hid (by rw [← HR.out, if_pos hm])
    clear hm
    go_wp2
    go_ret3
    exact ⟨by rw [HX.out] <;> rfl, HF2.out⟩
  · have HX : Hid (R = (0, 0, 4)) := Lib.hid (by rw [← HR.out, if_neg (by rw [hm]; decide), hpl])
    clear hm hpl
    go_wp2
    go_ret3
    exact ⟨by rw [HX.out] <;> rfl, HF2.out⟩
  have HX : Hid (R = ((sumP c (psV LP) p).1, (sumP c (psV LP) p).2, 0)) := Lib.hid (by rw [← HR.out, if_neg (by rw [hm]; decide), hpl])
  have HOK : Hid (POk c (psV LP) p) := Lib.hid ((POk.new (mayP_of hm).1 _).play hpl)
  have HMAY := Lib.hid hm
  have HPL := Lib.hid hpl
  clear hm hpl HR
  have KC := KC2
  have z0 := KC.out.cell 0; have z1 := KC.out.cell 1; have z2 := KC.out.cell 2; have z3 := KC.out.cell 3; have z4 := KC.out.cell 4; have z5 := KC.out.cell 5; have z6 := KC.out.cell 6; have z7 := KC.out.cell 7; simp only [List.getElem?_toArray, List.getElem?_cons_zero, List.getElem?_cons_succ] at z0 z1 z2 z3 z4 z5 z6 z7
  clear KC
  go_wp2_with fail
  refine (new_any c _).mono ?_
  rintro e w3 ⟨hb3, hnew⟩
  obtain ⟨mp, S, rfl, hmr⟩ := new_ok ⟨hb3, hnew⟩ (mayP_of HMAY.out).1
  have HQ3 : Hid (MQ_ w3 W.heap.size (ownT w2 (fun _ => 0) mp) mp (newM c)) := Lib.hid (MQ_.new hmr HF2.out.size)
  have HF3 := Lib.hid (stepB HF2.out hb3)
  have KC := Lib.hid (KC2.out.later hb3)
  clear z0 z1 z2 z3 z4 z5 z6 z7 hb3 hnew hmr HF2 KC2
  have hmf : ∀ (fn : Fn) (first cap : Array Value) (w : World), (Instr.makeFunc fn first cap).run Try.prog w = .ok (.func fn first cap) w := fun _ _ _ _ => rfl
  have z0 := KC.out.cell 0; have z1 := KC.out.cell 1; have z2 := KC.out.cell 2; have z3 := KC.out.cell 3; have z4 := KC.out.cell 4; have z5 := KC.out.cell 5; have z6 := KC.out.cell 6; have z7 := KC.out.cell 7; simp only [List.getElem?_toArray, List.getElem?_cons_zero, List.getElem?_cons_succ] at z0 z1 z2 z3 z4 z5 z6 z7
  go_wp2_with fail
  clear hmf
  refine (answers_p c A n cc LP A2 n2 c2 L (Below.refl _ w3) (HPS.out.at_ HF3.out) (HES.out.at_ HF3.out) HNB.out HLL.out).mono ?_
  rintro e w4 ⟨hf, v, D, rfl, hd, hds⟩
  have HF4 := Lib.hid (stepB HF3.out hf.bel)
  have HQ4 := Lib.hid (HQ3.out.later hf.bel)
  have KC4 := Lib.hid (KC.out.later hf.bel)
  have HD4 := Lib.hid hd
  have HDS : Hid (D.map (·.1) = p.done) := Lib.hid (by rw [hds, if_pos HMAY.out, HPL.out]; rfl)
  obtain ⟨Av, cv, rfl, _, _⟩ := hd.1.sl
  obtain ⟨own, hown⟩ : ∃ own, ownT w2 (fun _ => 0) mp = own := ⟨_, rfl⟩
  rw [hown] at HQ4
  have HDL : Hid (p.done.length = D.length) := Lib.hid (by rw [← HDS.out]; simp)
  have HDB : Hid (D.length ≤ 5000) := Lib.hid (by
    have h1 := HOK.out.tk
    have h2 := play_len HPL.out
    have h3 : (evV L).length ≤ 5000 := by unfold evV; rw [List.length_map]; exact HLL.out
    have h4 : (newP c (psV LP)).taken = 0 := rfl
    rw [← HDL.out]
    omega)
  clear z0 z1 z2 z3 z4 z5 z6 z7 hf hd hds HQ3 KC HES HPL hown
  obtain ⟨N, hN⟩ : ∃ N, D.length = N := ⟨_, rfl⟩
  have HN := Lib.hid hN
  rw [hN] at HDL HDB ⊢
  clear hN
  go_wp2
  go_loopw [6, 7, 41] (fun s6 s7 ix W' => ∃ (k : Nat) (own : Nat → Nat), k ≤ N ∧ ix = .int .i64 k ∧ s6 = .int .i64 (sumR c (psV LP) (newM c) (p.done.take k)).1 ∧ s7 = .int .i64 (sumR c (psV LP) (newM c) (p.done.take k)).2 ∧ MQ_ W' W.heap.size own mp (runD (psV LP) (newM c) (p.done.take k)) ∧ DnAt w3 W' (.slice Av N cv) D ∧ Blk W' bx #[.int .i64 c.ta, .int .i64 c.ac, .int .i64 c.ke, .int .i64 c.de, .int .i64 c.ts, .int .i64 c.kl, .int .i64 c.vl, .int .i64 c.fa] 45 ∧ Below W.heap.size W W') (fun _ _ ix _ => N - (intOf ix).toNat)
  case atStart => exact ⟨0, own, Nat.zero_le _, rfl, rfl, rfl, HQ4.out, by rw [← HN.out]; exact HD4.out, KC4.out, HF4.out⟩
  case round =>
    obtain ⟨k, own, hk, rfl, rfl, rfl, hq, hd, hc, hb⟩ := hrel
    have HQ := Lib.hid hq
    have HD := Lib.hid hd
    have KC := Lib.hid hc
    have HB := Lib.hid hb
    clear hq hd hc hb HQ4 HD4 KC4 HF4
    by_cases hlt : k < N
    · have d2 : decide ((k : Int) < (N : Int)) = true := decide_eq_true (by omega)
      have wk : IntKind.i64.wrap ((k : Int) + 1) = (k : Int) + 1 := IntWalk.i64_in _ (by have := HDB.out; omega)
      have hrd : D[k]? = some (D[k]'(by rw [HN.out]; exact hlt)) := List.getElem?_eq_getElem _
      generalize D[k]'(by rw [HN.out]; exact hlt) = r at *
      have hdk : p.done[k]? = some r.1 := by rw [← HDS.out, List.getElem?_map, hrd]; rfl
      obtain ⟨ti, ci, l, y, hti, hci, hlp, hlc⟩ := HOK.out.cl hdk
      have HSM := Lib.hid (sum_small HOK.out k)
      have HST := Lib.hid (sum_take c (psV LP) (newM c) p.done k r.1 hdk)
      have HRT := Lib.hid (run_take (psV LP) (newM c) p.done k r.1 hdk)
      obtain ⟨s, hs⟩ : ∃ s, runD (psV LP) (newM c) (p.done.take k) = s := ⟨_, rfl⟩
      have HTX : Hid (s.txns.length ≤ 100000) := Lib.hid (by
        have h1 := run_tx (P := psV LP) (l := p.done.take k) (s := newM c)
        have h2 : (p.done.take k).length ≤ k := List.length_take_le _ _
        have h3 : (newM c).txns.length = 0 := rfl
        rw [hs] at h1
        have := HDB.out
        omega)
      rw [hs] at HQ HST HRT
      have hmb := moreP_b (P := psV LP) HQ.out.ok (show s.cf = c by rw [← hs]; exact run_cf) r.1
      have hsk := (num_ok (mayP_of HMAY.out).1)
      have hk5 := hsk.tsk
      have hk6 := hsk.all
      clear hs hsk
      unfold moreP at HST hmb
      obtain ⟨x, hx⟩ : ∃ x, clP (psV LP) r.1 = x := ⟨_, rfl⟩
      rw [hx] at hlc HST HRT hmb
      have HMB : Hid (¬ 0 ≤ r.1.back → (0 ≤ (askP c x (rN s - rN (doM s r.1.task x).1)).1 ∧ (askP c x (rN s - rN (doM s r.1.task x).1)).1 ≤ 512) ∧ (0 ≤ (askP c x (rN s - rN (doM s r.1.task x).1)).2 ∧ (askP c x (rN s - rN (doM s r.1.task x).1)).2 ≤ 512)) := Lib.hid (fun h => by
        rw [if_neg h, if_pos (by omega)] at hmb
        omega)
      clear hmb hk5 hk6
      have hco := HPS.out.cok _ (List.mem_of_getElem? hlp) _ (List.mem_of_getElem? hlc)
      clear hx
      obtain ⟨⟨task, call, ⟨er, fo, va, pr⟩, mk, bk⟩, hA, hc⟩ := r
      obtain ⟨kn, tx, ke, en, vl, li, eg⟩ := x
      simp only at hti hci HST HRT HMB
      subst hti hci
      have HLP := Lib.hid hlp
      have HLC := Lib.hid hlc
      have HCO := Lib.hid hco
      have hD := HD.out.1
      rw [HN.out] at hD
      obtain ⟨g, off, hav, hg, hcl⟩ := (hD.rsl dnE_len).2 (by omega)
      have y0 : wr.cell? ⟨g, off + k * 8, none⟩ = some (.int .i64 (ti : Int)) := hcl k _ hrd 0 (by decide)
      have y1 : wr.cell? ⟨g, off + k * 8 + 1, none⟩ = some (.int .i64 (ci : Int)) := hcl k _ hrd 1 (by decide)
      have y2 : wr.cell? ⟨g, off + k * 8 + 2, none⟩ = some (.int .i64 er) := hcl k _ hrd 2 (by decide)
      have y3 : wr.cell? ⟨g, off + k * 8 + 2 + 1, none⟩ = some (.bool fo) := hcl k _ hrd 3 (by decide)
      have y4 : wr.cell? ⟨g, off + k * 8 + 2 + 2, none⟩ = some (.string va) := hcl k _ hrd 4 (by decide)
      have y5 : wr.cell? ⟨g, off + k * 8 + 2 + 3, none⟩ = some (.slice hA pr.length hc) := hcl k _ hrd 5 (by decide)
      have y6 : wr.cell? ⟨g, off + k * 8 + 6, none⟩ = some (.int .i64 mk) := hcl k _ hrd 6 (by decide)
      have y7 : wr.cell? ⟨g, off + k * 8 + 7, none⟩ = some (.int .i64 bk) := hcl k _ hrd 7 (by decide)
      have i0 : ∀ W, (Instr.indexAt 99 (.slice Av N cv) (.int .i64 (k : Int))).run Try.prog W = .ok (.pointer (some ⟨g, off + k * 8, none⟩)) W := fun W => by rw [hav]; exact idx99 g off N cv k (k : Int) rfl hlt W
      have hb5 : Below wr.heap.size wr (wr.alloc (.cells #[.int .i64 (ti : Int), .int .i64 (ci : Int), .int .i64 er, .bool fo, .string va, .slice hA pr.length hc, .int .i64 mk, .int .i64 bk] 102)) := (Below.refl _ _).alloc (Nat.le_refl _) _
      have KD : Hid (Blk (wr.alloc (.cells #[.int .i64 (ti : Int), .int .i64 (ci : Int), .int .i64 er, .bool fo, .string va, .slice hA pr.length hc, .int .i64 mk, .int .i64 bk] 102)) wr.heap.size #[.int .i64 (ti : Int), .int .i64 (ci : Int), .int .i64 er, .bool fo, .string va, .slice hA pr.length hc, .int .i64 mk, .int .i64 bk] 102) := Lib.hid (Blk.new wr _ 102)
      have HPD : Hid (W.heap.size ≤ wr.heap.size) := Lib.hid HB.out.size
      replace HB := Lib.hid (stepB HB.out hb5)
      replace HQ := Lib.hid (HQ.out.later hb5)
      replace HD := Lib.hid (show DnAt w3 (wr.alloc (.cells #[.int .i64 (ti : Int), .int .i64 (ci : Int), .int .i64 er, .bool fo, .string va, .slice hA pr.length hc, .int .i64 mk, .int .i64 bk] 102)) (.slice Av N cv) D from ⟨HD.out.1.later hb5, fun z hz => (HD.out.2 z hz).later hb5⟩)
      replace KC := Lib.hid (KC.out.later hb5)
      have HLT := Lib.hid hlt
      clear hb5 hcl hg hD hrd hdk hlp hlc hco hav hlt
      go_upto_region 9 with (fail)
      clear y0 y1 y2 y3 y4 y5 y6 y7 i0
      generalize wr.alloc (.cells #[.int .i64 (ti : Int), .int .i64 (ci : Int), .int .i64 er, .bool fo, .string va, .slice hA pr.length hc, .int .i64 mk, .int .i64 bk] 102) = w5 at *
      obtain ⟨pd, hpd⟩ : ∃ z, wr.heap.size = z := ⟨_, rfl⟩
      rw [hpd] at KD HPD ⊢
      clear hpd
      have HNP : Hid (ti < n) := Lib.hid (by have := (List.getElem?_eq_some_iff.1 HLP.out).1; rw [HLN.out] at this; exact this)
      have HCL : Hid (ci < l.length) := Lib.hid (List.getElem?_eq_some_iff.1 HLC.out).1
      obtain ⟨pg, poff, hpa, _, _⟩ := (HPS.out.row W (Fw.refl (Below.refl _ _))).2 (show 0 < n by have := HNP.out; omega)
      obtain ⟨lg, loff, hla, _, _⟩ := (HPS.out.inn _ (List.mem_of_getElem? HLP.out) W (Fw.refl (Below.refl _ _))).2 (show 0 < l.length by have := HCL.out; omega)
      have HPA := Lib.hid hpa
      have HLA := Lib.hid hla
      have HFX : Hid (∀ W', Below w5.heap.size w5 W' → W'.cell? ⟨pd, 0, none⟩ = some (.int .i64 (ti : Int)) ∧ W'.cell? ⟨pd, 1, none⟩ = some (.int .i64 (ci : Int)) ∧ W'.cell? ⟨pg, poff + ti, none⟩ = some (.slice (some ⟨lg, loff, none⟩) l.length y.2) ∧ W'.cell? ⟨lg, loff + ci * 7, none⟩ = some (.int .u8 (kn : Int)) ∧ W'.cell? ⟨lg, loff + ci * 7 + 1, none⟩ = some (.int .i64 tx) ∧ W'.cell? ⟨lg, loff + ci * 7 + 2, none⟩ = some (.string ke) ∧ W'.cell? ⟨lg, loff + ci * 7 + 3, none⟩ = some (.string en) ∧ W'.cell? ⟨lg, loff + ci * 7 + 4, none⟩ = some (.string vl) ∧ W'.cell? ⟨lg, loff + ci * 7 + 5, none⟩ = some (.int .i64 li) ∧ W'.cell? ⟨lg, loff + ci * 7 + 6, none⟩ = some (.int .u8 (eg : Int))) := Lib.hid (fun W' hb => by
        have hB := stepB HB.out hb
        have hF : Fw W W W' := Fw.of (Below.refl _ _) hB
        have k0 := (KD.out.later hb).cell 0
        have k1 := (KD.out.later hb).cell 1
        simp only [List.getElem?_toArray, List.getElem?_cons_zero, List.getElem?_cons_succ] at k0 k1
        obtain ⟨g1, o1, e1, _, h1⟩ := (HPS.out.row W' hF).2 (show 0 < n by have := HNP.out; omega)
        rw [HPA.out] at e1
        cases e1
        have p0 := h1 ti _ HLP.out 0 (by decide)
        simp only [Nat.mul_one, Nat.add_zero, prE, List.getElem?_cons_zero] at p0
        rw [HLA.out] at p0
        obtain ⟨g2, o2, e2, _, h2⟩ := (HPS.out.inn _ (List.mem_of_getElem? HLP.out) W' hF).2 (show 0 < l.length by have := HCL.out; omega)
        rw [HLA.out] at e2
        cases e2
        exact ⟨k0, k1, p0, h2 ci _ HLC.out 0 (by decide), h2 ci _ HLC.out 1 (by decide), h2 ci _ HLC.out 2 (by decide), h2 ci _ HLC.out 3 (by decide), h2 ci _ HLC.out 4 (by decide), h2 ci _ HLC.out 5 (by decide), h2 ci _ HLC.out 6 (by decide)⟩)
      have i1 : ∀ W, (Instr.indexAt 93 (.slice A n cc) (.int .i64 (ti : Int))).run Try.prog W = .ok (.pointer (some ⟨pg, poff + ti, none⟩)) W := fun W => by rw [hpa]; exact idx93 pg poff n cc ti (ti : Int) rfl HNP.out W
      have i2 := idx92 lg loff l.length y.2 ci (ci : Int) rfl HCL.out
      clear hpa hla
      refine wp_region_noPanic ?_
      obtain ⟨W0, rfl⟩ : ∃ W0 : World, W0 = w5 := ⟨_, rfl⟩
      refine wp_region_held_drew (S := fun W => Below W0.heap.size W0 W) (by kernel_rfl) (Below.drew (Below.refl _ _)) (fun hHeld => ?_)
      obtain ⟨Wd, hWd⟩ : ∃ z, World.drew W0 = z := ⟨_, rfl⟩
      have hbd : Below W0.heap.size W0 (World.drew W0) := Below.drew (Below.refl _ _)
      rw [hWd] at hHeld hbd ⊢
      clear hWd hbd
      refine tkL 0 ?_ rfl rfl ?_ (fun _ _ _ h => h) (by assumption) (by kernel_rfl) ?_
      rotate_left
      · intro W hSw
        clear hSw
        go_simp
        try with_reducible rfl
      simp only [pu_]
      refine tkL 1 ?_ rfl rfl ?_ (fun _ _ _ h => h) (by assumption) (by kernel_rfl) ?_
      rotate_left
      · intro W hSw
        clear hSw
        go_simp
        try with_reducible rfl
      simp only [pu_]
      refine tkL 2 ?_ rfl rfl ?_ (fun _ _ _ h => h) (by assumption) (by kernel_rfl) ?_
      rotate_left
      · intro W hSw
        obtain ⟨q0, q1, q2, q3⟩ := HFX.out W hSw
        obtain ⟨q4, q5, q6, q7, q8, q9, q10⟩ := q3
        clear hSw
        go_simp
        try with_reducible rfl
      simp only [pu_]
      refine tkL 3 ?_ rfl rfl ?_ (fun _ _ _ h => h) (by assumption) (by kernel_rfl) ?_
      rotate_left
      · intro W hSw
        obtain ⟨q0, q1, q2, q3⟩ := HFX.out W hSw
        obtain ⟨q4, q5, q6, q7, q8, q9, q10⟩ := q3
        clear hSw
        go_simp
        try with_reducible rfl
      simp only [pu_]
      refine tkL 4 ?_ rfl rfl ?_ (fun _ _ _ h => h) (by assumption) (by kernel_rfl) ?_
      rotate_left
      · intro W hSw
        obtain ⟨q0, q1, q2, q3⟩ := HFX.out W hSw
        obtain ⟨q4, q5, q6, q7, q8, q9, q10⟩ := q3
        clear hSw
        go_simp
        try with_reducible rfl
      simp only [pu_]
      refine tkL 5 ?_ rfl rfl ?_ (fun _ _ _ h => h) (by assumption) (by kernel_rfl) ?_
      rotate_left
      · intro W hSw
        clear hSw
        go_simp
        try with_reducible rfl
      simp only [pu_]
      refine tkL 6 ?_ rfl rfl ?_ (fun _ _ _ h => h) (by assumption) (by kernel_rfl) ?_
      rotate_left
      · intro W hSw
        obtain ⟨q0, q1, q2, q3⟩ := HFX.out W hSw
        obtain ⟨q4, q5, q6, q7, q8, q9, q10⟩ := q3
        clear hSw
        go_simp
        try with_reducible rfl
      simp only [pu_]
      refine tkL 7 ?_ rfl rfl ?_ (fun _ _ _ h => h) (by assumption) (by kernel_rfl) ?_
      rotate_left
      · intro W hSw
        obtain ⟨q0, q1, q2, q3⟩ := HFX.out W hSw
        obtain ⟨q4, q5, q6, q7, q8, q9, q10⟩ := q3
        clear hSw
        go_simp
        try with_reducible rfl
      simp only [pu_]
      refine tkL 8 ?_ rfl rfl ?_ (fun _ _ _ h => h) (by assumption) (by kernel_rfl) ?_
      rotate_left
      · intro W hSw
        obtain ⟨q0, q1, q2, q3⟩ := HFX.out W hSw
        obtain ⟨q4, q5, q6, q7, q8, q9, q10⟩ := q3
        clear hSw
        go_simp
        try with_reducible rfl
      simp only [pu_]
      refine tkL 9 ?_ rfl rfl ?_ (fun _ _ _ h => h) (by assumption) (by kernel_rfl) ?_
      rotate_left
      · intro W hSw
        clear hSw
        go_simp
        try with_reducible rfl
      simp only [pu_]
      refine wpAnyH_ready (rs := [10, 11]) (by kernel_rfl) (by simp) (AllReadyH.cons (o := { dst := some 55, op := Op.call { callee := Callee.value (Operand.func 22), args := #[Operand.tmp 54], argTypes := #[22] }, type := 3, pos := "room.go:42", after := #[{ on := 9, ground := Ground.data }], guard := none }) rfl (fun K hK => ?_) (AllReadyH.cons (o := { dst := some 16, op := Op.alloc 36, type := 0, pos := "room.go:42", after := #[], guard := none }) rfl (fun K hK => ?_) AllReadyH.nil))
      · have HCL2 := Lib.hid (mq_retained (HQ.out.later hHeld))
        go_simp
        refine HCL2.out.mono ?_
        rintro e Wp1 ⟨rfl, hb⟩
        have hb2 := stepB hHeld hb
        clear hb hHeld HCL2
        refine hK.out _ _ (hb2) (fun hHeld => ?_)
        clear hK K
        clear hb2
        refine wpAnyH_ready (rs := [11]) (by kernel_rfl) (by simp) (AllReadyH.cons (o := { dst := some 16, op := Op.alloc 36, type := 0, pos := "room.go:42", after := #[], guard := none }) rfl (fun K hK => ?_) AllReadyH.nil)
        go_simp
        have hb2 : Below W0.heap.size W0 (Wp1.alloc (.cells #[.int .u8 0, .int .i64 0, .string { data := #[] }, .string { data := #[] }, .string { data := #[] }, .int .i64 0, .int .u8 0] 36)) := stepB hHeld ((Below.refl _ _).alloc (Nat.le_refl _) _)
        have HPX : Hid (W0.heap.size ≤ Wp1.heap.size) := Lib.hid hHeld.size
        have KX : Hid (Blk (Wp1.alloc (.cells #[.int .u8 0, .int .i64 0, .string { data := #[] }, .string { data := #[] }, .string { data := #[] }, .int .i64 0, .int .u8 0] 36)) Wp1.heap.size #[.int .u8 0, .int .i64 0, .string { data := #[] }, .string { data := #[] }, .string { data := #[] }, .int .i64 0, .int .u8 0] 36) := Lib.hid (Blk.new Wp1 _ 36)
        clear hHeld
        refine hK.out _ _ (hb2) (fun hHeld => ?_)
        clear hK K
        clear hb2
        generalize Wp1.alloc (.cells #[.int .u8 0, .int .i64 0, .string { data := #[] }, .string { data := #[] }, .string { data := #[] }, .int .i64 0, .int .u8 0] 36) = Wp2 at *
        obtain ⟨px, hpx⟩ : ∃ z, Wp1.heap.size = z := ⟨_, rfl⟩
        rw [hpx] at KX HPX ⊢
        clear hpx
        refine wpAnyH_ready (rs := [12]) (by kernel_rfl) (by simp) (AllReadyH.cons (o := { dst := none, op := Op.store 36 (Operand.tmp 16) (Operand.tmp 53), type := 0, pos := "room.go:42", after := #[{ on := 11, ground := Ground.data }, { on := 8, ground := Ground.data }, { on := 10, ground := Ground.chain }, { on := 0, ground := Ground.phase }, { on := 1, ground := Ground.phase }, { on := 2, ground := Ground.phase }, { on := 3, ground := Ground.phase }, { on := 4, ground := Ground.phase }, { on := 5, ground := Ground.phase }, { on := 6, ground := Ground.phase }, { on := 7, ground := Ground.phase }, { on := 8, ground := Ground.phase }, { on := 9, ground := Ground.textOnly Departure.lateStores }, { on := 10, ground := Ground.textOnly Departure.lateStoresUnsure }, { on := 11, ground := Ground.phase }], guard := none }) rfl (fun K hK => ?_) AllReadyH.nil)
        refine wp_store_row 36 (.tmp 16) (.tmp 53) rfl px #[.int .u8 (kn : Int), .int .i64 tx, .string ke, .string en, .string vl, .int .i64 li, .int .u8 (eg : Int)] rfl rfl 36 #[.int .u8 0, .int .i64 0, .string { data := #[] }, .string { data := #[] }, .string { data := #[] }, .int .i64 0, .int .u8 0] KX.out (by kernel_rfl) rfl (by first | rfl | (simp [Value.oneCell']; done)) ?_
        have hb2 : Below W0.heap.size W0 (Wp2.setRow px #[.int .u8 (kn : Int), .int .i64 tx, .string ke, .string en, .string vl, .int .i64 li, .int .u8 (eg : Int)]) := below_setRow hHeld HPX.out _
        replace KX : Hid (Blk (Wp2.setRow px #[.int .u8 (kn : Int), .int .i64 tx, .string ke, .string en, .string vl, .int .i64 li, .int .u8 (eg : Int)]) px #[.int .u8 (kn : Int), .int .i64 tx, .string ke, .string en, .string vl, .int .i64 li, .int .u8 (eg : Int)] 36) := Lib.hid (Blk.setRow_self KX.out)
        clear hHeld
        refine hK.out _ _ (hb2) (fun hHeld => ?_)
        clear hK K
        clear hb2
        generalize Wp2.setRow px #[.int .u8 (kn : Int), .int .i64 tx, .string ke, .string en, .string vl, .int .i64 li, .int .u8 (eg : Int)] = Wp3 at *
        refine tkL 13 ?_ rfl rfl ?_ (fun _ _ _ h => h) (by assumption) (by kernel_rfl) ?_
        rotate_left
        · intro W hSw
          clear hSw
          go_simp
          try with_reducible rfl
        simp only [pu_]
        refine wpAnyH_done (by kernel_rfl) (NoPanic.normal ?_) _
        have HB6 := Lib.hid (stepB HB.out hHeld)
        have HQ6 := Lib.hid (HQ.out.later hHeld)
        have HD6 := Lib.hid (HD.out.later hHeld)
        have KD6 := Lib.hid (KD.out.later hHeld)
        have KC6 := Lib.hid (KC.out.later hHeld)
        clear hHeld HB HQ HD KD KC HFX i1 i2
        generalize Wp3 = w6 at *
        have x0 := KX.out.cell 0
        have x1 := KX.out.cell 1
        have x2 := KX.out.cell 2
        have x3 := KX.out.cell 3
        have x4 := KX.out.cell 4
        have x5 := KX.out.cell 5
        have x6 := KX.out.cell 6
        have t0 := KD6.out.cell 0
        simp only [List.getElem?_toArray, List.getElem?_cons_zero, List.getElem?_cons_succ] at x0 x1 x2 x3 x4 x5 x6 t0
        have HDO := Lib.hid (mq_do HQ6.out (ti : Int) tx li ke en vl kn eg HTX.out HCO.out)
        have HOS := Lib.hid HQ6.out.ok
        have HA5 : Hid (rN s ≤ 512) := Lib.hid HQ6.out.ok.rN_512
        unfold rN at HST HMB HA5
        obtain ⟨T, hT⟩ : ∃ T, doM s (ti : Int) (kn, tx, ke, en, vl, li, eg) = T := ⟨_, rfl⟩
        rw [hT] at HDO HST HMB HRT
        clear hT
        obtain ⟨s2, er2, fo2, va2, pr2⟩ := T
        obtain ⟨sa, hsa⟩ : ∃ sa, sumK retR s.rows = sa := ⟨_, rfl⟩
        rw [hsa] at HST HMB HA5 ⊢
        clear hsa
        go_wp2_with fail
        refine HDO.out.mono ?_
        rintro e w7 ⟨Aa, ca, rfl, hro, hm, hoth, hkp, hbl⟩
        have HB7 := Lib.hid (hbl _ _ HB6.out (Nat.le_refl _))
        have HQ7 := Lib.hid hm
        have HD7 := Lib.hid (HD6.out.kp hkp)
        have KD7 := Lib.hid (hkp.blk _ _ _ KD6.out (by decide) (by decide) (by decide) (by decide))
        have KX7 := Lib.hid (hkp.blk _ _ _ KX.out (by decide) (by decide) (by decide) (by decide))
        have KC7 := Lib.hid (hkp.blk _ _ _ KC6.out (by decide) (by decide) (by decide) (by decide))
        obtain ⟨own7, hown⟩ : ∃ o, ownT w6 own mp = o := ⟨_, rfl⟩
        rw [hown] at HQ7
        clear x0 x1 x2 x3 x4 x5 x6 t0 hro hm hoth hkp hbl HDO HB6 HQ6 HD6 KD6 KX KC6 hown
        have t7 := KD7.out.cell 7
        simp only [List.getElem?_toArray, List.getElem?_cons_zero, List.getElem?_cons_succ] at t7
        have HSB : Hid (sumK retR s2.rows ≤ 512) := Lib.hid HQ7.out.ok.rN_512
        by_cases hbk : 0 ≤ bk
        · have g1 : decide (bk ≥ 0) = true := decide_eq_true hbk
          have g2 : decide (0 ≤ bk) = true := decide_eq_true hbk
          have HS2 : Hid (sumR c (psV LP) (newM c) (p.done.take (k + 1)) = sumR c (psV LP) (newM c) (p.done.take k)) := Lib.hid (by
            rw [HST.out, if_pos hbk, Int.add_zero, Int.add_zero])
          clear hbk
          go_wp2
          refine ⟨⟨k + 1, own7, by have := HLT.out; omega, by go_num, by rw [HS2.out], by rw [HS2.out], by rw [HRT.out]; exact HQ7.out, HD7.out, KC7.out, HB7.out⟩, ?_⟩
          simp [intOf]
          have := HLT.out
          omega
        have g1 : decide (bk ≥ 0) = false := decide_eq_false hbk
        have g2 : decide (0 ≤ bk) = false := decide_eq_false hbk
        have hst := HST.out
        rw [if_neg hbk] at hst
        have hmb := HMB.out (by omega)
        obtain ⟨sb, hsb⟩ : ∃ sb, sumK retR s2.rows = sb := ⟨_, rfl⟩
        rw [hsb] at hst hmb HSB
        have HSBQ := Lib.hid hsb
        have HAS := Lib.hid (fun W' (h : Blk W' bx #[.int .i64 c.ta, .int .i64 c.ac, .int .i64 c.ke, .int .i64 c.de, .int .i64 c.ts, .int .i64 c.kl, .int .i64 c.vl, .int .i64 c.fa] 45) => ask_any c bx kn eg tx li ke en vl (sa - sb) W' h (by have := may_lo (mayP_of HMAY.out).1; omega))
        obtain ⟨Q, hQ⟩ : ∃ Q, askP c (kn, tx, ke, en, vl, li, eg) (sa - sb) = Q := ⟨_, rfl⟩
        rw [hQ] at hst hmb HAS
        obtain ⟨q1, q2⟩ := Q
        have HS2 := Lib.hid hst
        have HM2 := Lib.hid hmb
        clear hbk hst hmb HST HMB hsb hQ
        go_upto_region 12 with (fail)
        clear g1 g2 t7
        have mw : IntKind.i64.wrap ((sa : Int) - (sb : Int)) = (sa : Int) - (sb : Int) := i64w (by have := HA5.out; have := HSB.out; omega)
        have mw2 : wrap64 ((sa : Int) - (sb : Int)) = (sa : Int) - (sb : Int) := w64 (by have := HA5.out; have := HSB.out; omega)
        have mx : max 0 ((sa : Int) - (sb : Int)) = ((sa - sb : Nat) : Int) := by omega
        refine wp_region_noPanic ?_
        obtain ⟨W1, rfl⟩ : ∃ W1 : World, W1 = w7 := ⟨_, rfl⟩
        refine wp_region_held_drew (S := fun W => Below W1.heap.size W1 W) (by kernel_rfl) (Below.drew (Below.refl _ _)) (fun hHeld => ?_)
        obtain ⟨Wg, hWg⟩ : ∃ z, World.drew W1 = z := ⟨_, rfl⟩
        rw [hWg] at hHeld ⊢
        clear hWg
        refine tkL 0 ?_ rfl rfl ?_ (fun _ _ _ h => h) (by assumption) (by kernel_rfl) ?_
        rotate_left
        · intro W hSw
          clear hSw
          go_simp
          try with_reducible rfl
        simp only [pu_]
        refine tkL 1 ?_ rfl rfl ?_ (fun _ _ _ h => h) (by assumption) (by kernel_rfl) ?_
        rotate_left
        · intro W hSw
          have x0 := (KX7.out.later hSw).cell 0
          have x1 := (KX7.out.later hSw).cell 1
          have x2 := (KX7.out.later hSw).cell 2
          have x3 := (KX7.out.later hSw).cell 3
          have x4 := (KX7.out.later hSw).cell 4
          have x5 := (KX7.out.later hSw).cell 5
          have x6 := (KX7.out.later hSw).cell 6
          simp only [List.getElem?_toArray, List.getElem?_cons_zero, List.getElem?_cons_succ] at x0 x1 x2 x3 x4 x5 x6
          clear hSw
          go_simp
          try with_reducible rfl
        simp only [pu_]
        refine tkL 2 ?_ rfl rfl ?_ (fun _ _ _ h => h) (by assumption) (by kernel_rfl) ?_
        rotate_left
        · intro W hSw
          clear hSw
          go_simp
          try with_reducible rfl
        simp only [pu_]
        refine tkL 3 ?_ rfl rfl ?_ (fun _ _ _ h => h) (by assumption) (by kernel_rfl) ?_
        rotate_left
        · intro W hSw
          clear hSw
          go_simp
          try with_reducible rfl
        simp only [pu_]
        refine wpAnyH_ready (rs := [4]) (by kernel_rfl) (by simp) (AllReadyH.cons (o := { dst := some 69, op := Op.call { callee := Callee.value (Operand.func 22), args := #[Operand.tmp 68], argTypes := #[22] }, type := 3, pos := "room.go:47", after := #[{ on := 3, ground := Ground.data }], guard := none }) rfl (fun K hK => ?_) AllReadyH.nil)
        have HCL2 := Lib.hid (mq_retained (HQ7.out.later hHeld))
        go_simp
        refine HCL2.out.mono ?_
        rw [HSBQ.out]
        rintro e Wi ⟨rfl, hb⟩
        have hb2 := stepB hHeld hb
        clear hb hHeld HCL2
        refine hK.out _ _ (hb2) (fun hHeld => ?_)
        clear hK K
        clear hb2
        refine tkL 5 ?_ rfl rfl ?_ (fun _ _ _ h => h) (by assumption) (by kernel_rfl) ?_
        rotate_left
        · intro W hSw
          clear hSw
          go_simp
          try with_reducible rfl
        simp only [pu_]
        refine tkL 6 ?_ rfl rfl ?_ (fun _ _ _ h => h) (by assumption) (by kernel_rfl) ?_
        rotate_left
        · intro W hSw
          clear hSw
          go_simp
          try with_reducible rfl
        simp only [pu_]
        refine wpAnyH_ready (rs := [7]) (by kernel_rfl) (by simp) (AllReadyH.cons (o := { dst := some 72, op := Op.call { callee := Callee.value (Operand.tmp 65), args := #[Operand.tmp 66, Operand.tmp 71], argTypes := #[36, 3] }, type := 81, pos := "room.go:47", after := #[{ on := 0, ground := Ground.data }, { on := 1, ground := Ground.data }, { on := 6, ground := Ground.data }, { on := 4, ground := Ground.chain }], guard := none }) rfl (fun K hK => ?_) AllReadyH.nil)
        have HCL2 := Lib.hid (HAS.out Wi (KC7.out.later hHeld))
        go_simp
        refine HCL2.out.mono ?_
        rintro e Wj ⟨rfl, hb⟩
        have hb2 := stepB hHeld hb
        clear hb hHeld HCL2
        refine hK.out _ _ (hb2) (fun hHeld => ?_)
        clear hK K
        clear hb2
        refine tkL 8 ?_ rfl rfl ?_ (fun _ _ _ h => h) (by assumption) (by kernel_rfl) ?_
        rotate_left
        · intro W hSw
          clear hSw
          go_simp
          try with_reducible rfl
        simp only [pu_]
        refine tkL 9 ?_ rfl rfl ?_ (fun _ _ _ h => h) (by assumption) (by kernel_rfl) ?_
        rotate_left
        · intro W hSw
          clear hSw
          go_simp
          try with_reducible rfl
        simp only [pu_]
        refine tkL 10 ?_ rfl rfl ?_ (fun _ _ _ h => h) (by assumption) (by kernel_rfl) ?_
        rotate_left
        · intro W hSw
          clear hSw
          go_simp
          try with_reducible rfl
        simp only [pu_]
        refine tkL 11 ?_ rfl rfl ?_ (fun _ _ _ h => h) (by assumption) (by kernel_rfl) ?_
        rotate_left
        · intro W hSw
          clear hSw
          go_simp
          try with_reducible rfl
        simp only [pu_]
        refine tkL 12 ?_ rfl rfl ?_ (fun _ _ _ h => h) (by assumption) (by kernel_rfl) ?_
        rotate_left
        · intro W hSw
          clear hSw
          go_simp
          try with_reducible rfl
        simp only [pu_]
        refine wpAnyH_done (by kernel_rfl) (NoPanic.normal ?_) _
        have HB8 := Lib.hid (stepB HB7.out hHeld)
        have HQ8 := Lib.hid (HQ7.out.later hHeld)
        have HD8 := Lib.hid (HD7.out.later hHeld)
        have KC8 := Lib.hid (KC7.out.later hHeld)
        clear hHeld HB7 HQ7 HD7 KD7 KX7 KC7 HAS mw mw2 mx
        generalize Wj = w8 at *
        obtain ⟨v1, hv1⟩ : ∃ v, (sumR c (psV LP) (newM c) (p.done.take k)).1 = v := ⟨_, rfl⟩
        obtain ⟨v2, hv2⟩ : ∃ v, (sumR c (psV LP) (newM c) (p.done.take k)).2 = v := ⟨_, rfl⟩
        rw [hv1, hv2] at HS2 HSM
        rw [hv1, hv2]
        clear hv1 hv2
        have HE1 : Hid ((sumR c (psV LP) (newM c) (p.done.take (k + 1))).1 = wrap64 (v1 + q1)) := Lib.hid (by
          rw [HS2.out, w64 (by have := HSM.out; have := HM2.out; omega)])
        have HE2 : Hid ((sumR c (psV LP) (newM c) (p.done.take (k + 1))).2 = wrap64 (v2 + q2)) := Lib.hid (by
          rw [HS2.out, w64 (by have := HSM.out; have := HM2.out; omega)])
        go_wp2
        refine ⟨⟨k + 1, own7, by have := HLT.out; omega, by go_num, by rw [HE1.out], by rw [HE2.out], by rw [HRT.out]; exact HQ8.out, HD8.out, KC8.out, HB8.out⟩, ?_⟩
        simp [intOf]
        have := HLT.out
        omega
      · go_simp
        have hb2 : Below W0.heap.size W0 (Wd.alloc (.cells #[.int .u8 0, .int .i64 0, .string { data := #[] }, .string { data := #[] }, .string { data := #[] }, .int .i64 0, .int .u8 0] 36)) := stepB hHeld ((Below.refl _ _).alloc (Nat.le_refl _) _)
        have HPX : Hid (W0.heap.size ≤ Wd.heap.size) := Lib.hid hHeld.size
        have KX : Hid (Blk (Wd.alloc (.cells #[.int .u8 0, .int .i64 0, .string { data := #[] }, .string { data := #[] }, .string { data := #[] }, .int .i64 0, .int .u8 0] 36)) Wd.heap.size #[.int .u8 0, .int .i64 0, .string { data := #[] }, .string { data := #[] }, .string { data := #[] }, .int .i64 0, .int .u8 0] 36) := Lib.hid (Blk.new Wd _ 36)
        clear hHeld
        refine hK.out _ _ (hb2) (fun hHeld => ?_)
        clear hK K
        clear hb2
        generalize Wd.alloc (.cells #[.int .u8 0, .int .i64 0, .string { data := #[] }, .string { data := #[] }, .string { data := #[] }, .int .i64 0, .int .u8 0] 36) = Wp4 at *
        obtain ⟨px, hpx⟩ : ∃ z, Wd.heap.size = z := ⟨_, rfl⟩
        rw [hpx] at KX HPX ⊢
        clear hpx
        refine wpAnyH_ready (rs := [10]) (by kernel_rfl) (by simp) (AllReadyH.cons (o := { dst := some 55, op := Op.call { callee := Callee.value (Operand.func 22), args := #[Operand.tmp 54], argTypes := #[22] }, type := 3, pos := "room.go:42", after := #[{ on := 9, ground := Ground.data }], guard := none }) rfl (fun K hK => ?_) AllReadyH.nil)
        have HCL2 := Lib.hid (mq_retained (HQ.out.later hHeld))
        go_simp
        refine HCL2.out.mono ?_
        rintro e Wp5 ⟨rfl, hb⟩
        have hb2 := stepB hHeld hb
        replace KX := Lib.hid (KX.out.later hb)
        replace HPX := Lib.hid (Nat.le_trans HPX.out (Nat.le_refl _))
        clear hb hHeld HCL2
        refine hK.out _ _ (hb2) (fun hHeld => ?_)
        clear hK K
        clear hb2
        refine wpAnyH_ready (rs := [12]) (by kernel_rfl) (by simp) (AllReadyH.cons (o := { dst := none, op := Op.store 36 (Operand.tmp 16) (Operand.tmp 53), type := 0, pos := "room.go:42", after := #[{ on := 11, ground := Ground.data }, { on := 8, ground := Ground.data }, { on := 10, ground := Ground.chain }, { on := 0, ground := Ground.phase }, { on := 1, ground := Ground.phase }, { on := 2, ground := Ground.phase }, { on := 3, ground := Ground.phase }, { on := 4, ground := Ground.phase }, { on := 5, ground := Ground.phase }, { on := 6, ground := Ground.phase }, { on := 7, ground := Ground.phase }, { on := 8, ground := Ground.phase }, { on := 9, ground := Ground.textOnly Departure.lateStores }, { on := 10, ground := Ground.textOnly Departure.lateStoresUnsure }, { on := 11, ground := Ground.phase }], guard := none }) rfl (fun K hK => ?_) AllReadyH.nil)
        refine wp_store_row 36 (.tmp 16) (.tmp 53) rfl px #[.int .u8 (kn : Int), .int .i64 tx, .string ke, .string en, .string vl, .int .i64 li, .int .u8 (eg : Int)] rfl rfl 36 #[.int .u8 0, .int .i64 0, .string { data := #[] }, .string { data := #[] }, .string { data := #[] }, .int .i64 0, .int .u8 0] KX.out (by kernel_rfl) rfl (by first | rfl | (simp [Value.oneCell']; done)) ?_
        have hb2 : Below W0.heap.size W0 (Wp5.setRow px #[.int .u8 (kn : Int), .int .i64 tx, .string ke, .string en, .string vl, .int .i64 li, .int .u8 (eg : Int)]) := below_setRow hHeld HPX.out _
        replace KX : Hid (Blk (Wp5.setRow px #[.int .u8 (kn : Int), .int .i64 tx, .string ke, .string en, .string vl, .int .i64 li, .int .u8 (eg : Int)]) px #[.int .u8 (kn : Int), .int .i64 tx, .string ke, .string en, .string vl, .int .i64 li, .int .u8 (eg : Int)] 36) := Lib.hid (Blk.setRow_self KX.out)
        clear hHeld
        refine hK.out _ _ (hb2) (fun hHeld => ?_)
        clear hK K
        clear hb2
        generalize Wp5.setRow px #[.int .u8 (kn : Int), .int .i64 tx, .string ke, .string en, .string vl, .int .i64 li, .int .u8 (eg : Int)] = Wp6 at *
        refine tkL 13 ?_ rfl rfl ?_ (fun _ _ _ h => h) (by assumption) (by kernel_rfl) ?_
        rotate_left
        · intro W hSw
          clear hSw
          go_simp
          try with_reducible rfl
        simp only [pu_]
        refine wpAnyH_done (by kernel_rfl) (NoPanic.normal ?_) _
        have HB6 := Lib.hid (stepB HB.out hHeld)
        have HQ6 := Lib.hid (HQ.out.later hHeld)
        have HD6 := Lib.hid (HD.out.later hHeld)
        have KD6 := Lib.hid (KD.out.later hHeld)
        have KC6 := Lib.hid (KC.out.later hHeld)
        clear hHeld HB HQ HD KD KC HFX i1 i2
        generalize Wp6 = w6 at *
        have x0 := KX.out.cell 0
        have x1 := KX.out.cell 1
        have x2 := KX.out.cell 2
        have x3 := KX.out.cell 3
        have x4 := KX.out.cell 4
        have x5 := KX.out.cell 5
        have x6 := KX.out.cell 6
        have t0 := KD6.out.cell 0
        simp only [List.getElem?_toArray, List.getElem?_cons_zero, List.getElem?_cons_succ] at x0 x1 x2 x3 x4 x5 x6 t0
        have HDO := Lib.hid (mq_do HQ6.out (ti : Int) tx li ke en vl kn eg HTX.out HCO.out)
        have HOS := Lib.hid HQ6.out.ok
        have HA5 : Hid (rN s ≤ 512) := Lib.hid HQ6.out.ok.rN_512
        unfold rN at HST HMB HA5
        obtain ⟨T, hT⟩ : ∃ T, doM s (ti : Int) (kn, tx, ke, en, vl, li, eg) = T := ⟨_, rfl⟩
        rw [hT] at HDO HST HMB HRT
        clear hT
        obtain ⟨s2, er2, fo2, va2, pr2⟩ := T
        obtain ⟨sa, hsa⟩ : ∃ sa, sumK retR s.rows = sa := ⟨_, rfl⟩
        rw [hsa] at HST HMB HA5 ⊢
        clear hsa
        go_wp2_with fail
        refine HDO.out.mono ?_
        rintro e w7 ⟨Aa, ca, rfl, hro, hm, hoth, hkp, hbl⟩
        have HB7 := Lib.hid (hbl _ _ HB6.out (Nat.le_refl _))
        have HQ7 := Lib.hid hm
        have HD7 := Lib.hid (HD6.out.kp hkp)
        have KD7 := Lib.hid (hkp.blk _ _ _ KD6.out (by decide) (by decide) (by decide) (by decide))
        have KX7 := Lib.hid (hkp.blk _ _ _ KX.out (by decide) (by decide) (by decide) (by decide))
        have KC7 := Lib.hid (hkp.blk _ _ _ KC6.out (by decide) (by decide) (by decide) (by decide))
        obtain ⟨own7, hown⟩ : ∃ o, ownT w6 own mp = o := ⟨_, rfl⟩
        rw [hown] at HQ7
        clear x0 x1 x2 x3 x4 x5 x6 t0 hro hm hoth hkp hbl HDO HB6 HQ6 HD6 KD6 KX KC6 hown
        have t7 := KD7.out.cell 7
        simp only [List.getElem?_toArray, List.getElem?_cons_zero, List.getElem?_cons_succ] at t7
        have HSB : Hid (sumK retR s2.rows ≤ 512) := Lib.hid HQ7.out.ok.rN_512
        by_cases hbk : 0 ≤ bk
        · have g1 : decide (bk ≥ 0) = true := decide_eq_true hbk
          have g2 : decide (0 ≤ bk) = true := decide_eq_true hbk
          have HS2 : Hid (sumR c (psV LP) (newM c) (p.done.take (k + 1)) = sumR c (psV LP) (newM c) (p.done.take k)) := Lib.hid (by
            rw [HST.out, if_pos hbk, Int.add_zero, Int.add_zero])
          clear hbk
          go_wp2
          refine ⟨⟨k + 1, own7, by have := HLT.out; omega, by go_num, by rw [HS2.out], by rw [HS2.out], by rw [HRT.out]; exact HQ7.out, HD7.out, KC7.out, HB7.out⟩, ?_⟩
          simp [intOf]
          have := HLT.out
          omega
        have g1 : decide (bk ≥ 0) = false := decide_eq_false hbk
        have g2 : decide (0 ≤ bk) = false := decide_eq_false hbk
        have hst := HST.out
        rw [if_neg hbk] at hst
        have hmb := HMB.out (by omega)
        obtain ⟨sb, hsb⟩ : ∃ sb, sumK retR s2.rows = sb := ⟨_, rfl⟩
        rw [hsb] at hst hmb HSB
        have HSBQ := Lib.hid hsb
        have HAS := Lib.hid (fun W' (h : Blk W' bx #[.int .i64 c.ta, .int .i64 c.ac, .int .i64 c.ke, .int .i64 c.de, .int .i64 c.ts, .int .i64 c.kl, .int .i64 c.vl, .int .i64 c.fa] 45) => ask_any c bx kn eg tx li ke en vl (sa - sb) W' h (by have := may_lo (mayP_of HMAY.out).1; omega))
        obtain ⟨Q, hQ⟩ : ∃ Q, askP c (kn, tx, ke, en, vl, li, eg) (sa - sb) = Q := ⟨_, rfl⟩
        rw [hQ] at hst hmb HAS
        obtain ⟨q1, q2⟩ := Q
        have HS2 := Lib.hid hst
        have HM2 := Lib.hid hmb
        clear hbk hst hmb HST HMB hsb hQ
        go_upto_region 12 with (fail)
        clear g1 g2 t7
        have mw : IntKind.i64.wrap ((sa : Int) - (sb : Int)) = (sa : Int) - (sb : Int) := i64w (by have := HA5.out; have := HSB.out; omega)
        have mw2 : wrap64 ((sa : Int) - (sb : Int)) = (sa : Int) - (sb : Int) := w64 (by have := HA5.out; have := HSB.out; omega)
        have mx : max 0 ((sa : Int) - (sb : Int)) = ((sa - sb : Nat) : Int) := by omega
        refine wp_region_noPanic ?_
        obtain ⟨W1, rfl⟩ : ∃ W1 : World, W1 = w7 := ⟨_, rfl⟩
        refine wp_region_held_drew (S := fun W => Below W1.heap.size W1 W) (by kernel_rfl) (Below.drew (Below.refl _ _)) (fun hHeld => ?_)
        obtain ⟨Wg, hWg⟩ : ∃ z, World.drew W1 = z := ⟨_, rfl⟩
        rw [hWg] at hHeld ⊢
        clear hWg
        refine tkL 0 ?_ rfl rfl ?_ (fun _ _ _ h => h) (by assumption) (by kernel_rfl) ?_
        rotate_left
        · intro W hSw
          clear hSw
          go_simp
          try with_reducible rfl
        simp only [pu_]
        refine tkL 1 ?_ rfl rfl ?_ (fun _ _ _ h => h) (by assumption) (by kernel_rfl) ?_
        rotate_left
        · intro W hSw
          have x0 := (KX7.out.later hSw).cell 0
          have x1 := (KX7.out.later hSw).cell 1
          have x2 := (KX7.out.later hSw).cell 2
          have x3 := (KX7.out.later hSw).cell 3
          have x4 := (KX7.out.later hSw).cell 4
          have x5 := (KX7.out.later hSw).cell 5
          have x6 := (KX7.out.later hSw).cell 6
          simp only [List.getElem?_toArray, List.getElem?_cons_zero, List.getElem?_cons_succ] at x0 x1 x2 x3 x4 x5 x6
          clear hSw
          go_simp
          try with_reducible rfl
        simp only [pu_]
        refine tkL 2 ?_ rfl rfl ?_ (fun _ _ _ h => h) (by assumption) (by kernel_rfl) ?_
        rotate_left
        · intro W hSw
          clear hSw
          go_simp
          try with_reducible rfl
        simp only [pu_]
        refine tkL 3 ?_ rfl rfl ?_ (fun _ _ _ h => h) (by assumption) (by kernel_rfl) ?_
        rotate_left
        · intro W hSw
          clear hSw
          go_simp
          try with_reducible rfl
        simp only [pu_]
        refine wpAnyH_ready (rs := [4]) (by kernel_rfl) (by simp) (AllReadyH.cons (o := { dst := some 69, op := Op.call { callee := Callee.value (Operand.func 22), args := #[Operand.tmp 68], argTypes := #[22] }, type := 3, pos := "room.go:47", after := #[{ on := 3, ground := Ground.data }], guard := none }) rfl (fun K hK => ?_) AllReadyH.nil)
        have HCL2 := Lib.hid (mq_retained (HQ7.out.later hHeld))
        go_simp
        refine HCL2.out.mono ?_
        rw [HSBQ.out]
        rintro e Wi ⟨rfl, hb⟩
        have hb2 := stepB hHeld hb
        clear hb hHeld HCL2
        refine hK.out _ _ (hb2) (fun hHeld => ?_)
        clear hK K
        clear hb2
        refine tkL 5 ?_ rfl rfl ?_ (fun _ _ _ h => h) (by assumption) (by kernel_rfl) ?_
        rotate_left
        · intro W hSw
          clear hSw
          go_simp
          try with_reducible rfl
        simp only [pu_]
        refine tkL 6 ?_ rfl rfl ?_ (fun _ _ _ h => h) (by assumption) (by kernel_rfl) ?_
        rotate_left
        · intro W hSw
          clear hSw
          go_simp
          try with_reducible rfl
        simp only [pu_]
        refine wpAnyH_ready (rs := [7]) (by kernel_rfl) (by simp) (AllReadyH.cons (o := { dst := some 72, op := Op.call { callee := Callee.value (Operand.tmp 65), args := #[Operand.tmp 66, Operand.tmp 71], argTypes := #[36, 3] }, type := 81, pos := "room.go:47", after := #[{ on := 0, ground := Ground.data }, { on := 1, ground := Ground.data }, { on := 6, ground := Ground.data }, { on := 4, ground := Ground.chain }], guard := none }) rfl (fun K hK => ?_) AllReadyH.nil)
        have HCL2 := Lib.hid (HAS.out Wi (KC7.out.later hHeld))
        go_simp
        refine HCL2.out.mono ?_
        rintro e Wj ⟨rfl, hb⟩
        have hb2 := stepB hHeld hb
        clear hb hHeld HCL2
        refine hK.out _ _ (hb2) (fun hHeld => ?_)
        clear hK K
        clear hb2
        refine tkL 8 ?_ rfl rfl ?_ (fun _ _ _ h => h) (by assumption) (by kernel_rfl) ?_
        rotate_left
        · intro W hSw
          clear hSw
          go_simp
          try with_reducible rfl
        simp only [pu_]
        refine tkL 9 ?_ rfl rfl ?_ (fun _ _ _ h => h) (by assumption) (by kernel_rfl) ?_
        rotate_left
        · intro W hSw
          clear hSw
          go_simp
          try with_reducible rfl
        simp only [pu_]
        refine tkL 10 ?_ rfl rfl ?_ (fun _ _ _ h => h) (by assumption) (by kernel_rfl) ?_
        rotate_left
        · intro W hSw
          clear hSw
          go_simp
          try with_reducible rfl
        simp only [pu_]
        refine tkL 11 ?_ rfl rfl ?_ (fun _ _ _ h => h) (by assumption) (by kernel_rfl) ?_
        rotate_left
        · intro W hSw
          clear hSw
          go_simp
          try with_reducible rfl
        simp only [pu_]
        refine tkL 12 ?_ rfl rfl ?_ (fun _ _ _ h => h) (by assumption) (by kernel_rfl) ?_
        rotate_left
        · intro W hSw
          clear hSw
          go_simp
          try with_reducible rfl
        simp only [pu_]
        refine wpAnyH_done (by kernel_rfl) (NoPanic.normal ?_) _
        have HB8 := Lib.hid (stepB HB7.out hHeld)
        have HQ8 := Lib.hid (HQ7.out.later hHeld)
        have HD8 := Lib.hid (HD7.out.later hHeld)
        have KC8 := Lib.hid (KC7.out.later hHeld)
        clear hHeld HB7 HQ7 HD7 KD7 KX7 KC7 HAS mw mw2 mx
        generalize Wj = w8 at *
        obtain ⟨v1, hv1⟩ : ∃ v, (sumR c (psV LP) (newM c) (p.done.take k)).1 = v := ⟨_, rfl⟩
        obtain ⟨v2, hv2⟩ : ∃ v, (sumR c (psV LP) (newM c) (p.done.take k)).2 = v := ⟨_, rfl⟩
        rw [hv1, hv2] at HS2 HSM
        rw [hv1, hv2]
        clear hv1 hv2
        have HE1 : Hid ((sumR c (psV LP) (newM c) (p.done.take (k + 1))).1 = wrap64 (v1 + q1)) := Lib.hid (by
          rw [HS2.out, w64 (by have := HSM.out; have := HM2.out; omega)])
        have HE2 : Hid ((sumR c (psV LP) (newM c) (p.done.take (k + 1))).2 = wrap64 (v2 + q2)) := Lib.hid (by
          rw [HS2.out, w64 (by have := HSM.out; have := HM2.out; omega)])
        go_wp2
        refine ⟨⟨k + 1, own7, by have := HLT.out; omega, by go_num, by rw [HE1.out], by rw [HE2.out], by rw [HRT.out]; exact HQ8.out, HD8.out, KC8.out, HB8.out⟩, ?_⟩
        simp [intOf]
        have := HLT.out
        omega
    · obtain rfl : k = N := by omega
      have d2 : decide ((k : Int) < (k : Int)) = false := decide_eq_false (by omega)
      have ek : p.done.take k = p.done := by rw [← HDL.out, List.take_length]
      have hsm := sum_small HOK.out k
      have hrn := HOK.out.ok.rN_512
      have hke := HOK.out.ok.keys
      have hkk := may_lo HOK.out.ok.may
      have hru := HOK.out.run
      have hx := HX.out
      unfold sumP at hx
      unfold rN at hrn hx
      rw [← ek] at hru hx
      obtain ⟨v1, hv1⟩ : ∃ v, (sumR c (psV LP) (newM c) (p.done.take k)).1 = v := ⟨_, rfl⟩
      obtain ⟨v2, hv2⟩ : ∃ v, (sumR c (psV LP) (newM c) (p.done.take k)).2 = v := ⟨_, rfl⟩
      obtain ⟨s, hs⟩ : ∃ s, runD (psV LP) (newM c) (p.done.take k) = s := ⟨_, rfl⟩
      rw [hs] at HQ hru
      rw [hru] at hrn hke hkk hx
      rw [hv1, hv2] at hsm hx
      rw [hv1, hv2]
      obtain ⟨sa, hsa⟩ : ∃ sa, sumK retR s.rows = sa := ⟨_, rfl⟩
      obtain ⟨sl, hsl⟩ : ∃ sl, s.rows.length = sl := ⟨_, rfl⟩
      rw [hsa] at hrn hx
      rw [hsl] at hke hx
      simp only at hx
      have HX2 : Hid (R = (wrap64 (v1 + (sa : Int)), wrap64 (v2 + (sl : Int)), 0)) := Lib.hid (by rw [hx, w64 (by omega), w64 (by omega)])
      have HSA := Lib.hid hsa
      have HSL := Lib.hid hsl
      clear hsm hrn hke hkk hru hx hv1 hv2 hs hsa hsl ek
      go_wp2_with fail
      refine (mq_retained HQ.out).mono ?_
      rw [HSA.out]
      rintro e w5 ⟨rfl, hb⟩
      have HB5 := Lib.hid (stepB HB.out hb)
      have HQ5 := Lib.hid (HQ.out.later hb)
      clear hb HB HQ
      go_wp2_with fail
      refine (mq_keys HQ5.out).mono ?_
      rintro e w6 ⟨vv, rfl, ho, hb⟩
      rw [List.length_map, HSL.out] at ho
      obtain ⟨Ak, ck, rfl, _⟩ := ho.sl
      have HB6 := Lib.hid (stepB HB5.out hb)
      clear ho hb HB5 HQ5
      go_wp2
      go_ret3
      exact ⟨by rw [HX2.out] <;> rfl, HB6.out⟩
end Go.Proofs.Ytoinjnocopejjaa
