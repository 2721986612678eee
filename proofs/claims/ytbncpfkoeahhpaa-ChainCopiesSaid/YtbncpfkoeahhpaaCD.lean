/- An engine in memory; New, may, Read, Used, Free. -/
import Derived.Test.YtbncpfkoeahhpaaCC
import Derived.Test.YtbncpfkoeahhpaaGX
import Derived.Test.YtbncpfkoeahhpaaTX
namespace Go.Proofs.Ytbncpfkoeahhpaa
open Go.ChangeShapes Go.WideShapes Go.ChangeAt Go.RowKit Go.Maps
set_option linter.unusedVariables false
set_option linter.unusedSimpArgs false

structure CR (W : World) (B q : Nat) (cf : Conf) (a m : Nat) (st : AS) (S : Nat → Prop) : Prop where
  hq : B ≤ q
  blk : Blk W q #[.int .i64 cf.ta, .int .i64 cf.ac, .int .i64 cf.ke, .int .i64 cf.de, .int .i64 cf.ts, .int .i64 cf.kl, .int .i64 cf.vl, .int .i64 cf.fa, .pointer (some ⟨a, 0, none⟩)] 68
  ar : AR W B a (27 + m) st S
  vl : cf.vl = (m : Int)
  may : mayB cf = true
section
variable {W W' : World} {B q a m : Nat} {cf : Conf} {st st' : AS} {S S' R : Nat → Prop}
theorem CR.m256 (h : CR W B q cf a m st S) : m ≤ 256 := by
  have h1 := h.may
  unfold mayB at h1
  rw [List.all_eq_true] at h1
  have h2 := h1 6 (by simp)
  rw [decide_eq_true_eq] at h2
  have h3 : cf.num 6 = cf.vl := rfl
  have h4 : hi 6 = 256 := rfl
  have := h.vl
  omega
theorem CR.later (h : CR W B q cf a m st S) (hb : Below W.heap.size W W') : CR W' B q cf a m st S := ⟨h.hq, h.blk.later hb, h.ar.later hb, h.vl, h.may⟩
theorem CR.base {B' : Nat} (h : CR W B q cf a m st S) (hb : B' ≤ B) : CR W B' q cf a m st S := ⟨Nat.le_trans hb h.hq, h.blk, h.ar.base hb, h.vl, h.may⟩
theorem CR.step (h : CR W B q cf a m st S) (hr : AR W' B a (27 + m) st' S') (hf : FrS W W' S) : CR W' B q cf a m st' S' := ⟨h.hq, h.ar.blk hf h.blk (by decide), hr, h.vl, h.may⟩
theorem CR.fr (h : CR W B q cf a m st S) (hf : FrS W W' R) (hd : ∀ k, S k → ¬ R k) (hq : ¬ R q) : CR W' B q cf a m st S := ⟨h.hq, hf.blk h.blk hq, h.ar.fr hf hd, h.vl, h.may⟩
theorem CR.c8 (h : CR W B q cf a m st S) : W.cell? ⟨q, 8, none⟩ = some (.pointer (some ⟨a, 0, none⟩)) := h.blk.cell 8
end
theorem results_cell_row2 {P : Program} {fn : Func} {p u : Tmp} {ty : TypeId} (h : fn.results = #[.cell p ty, .tmp u]) (tmps : Array Value) (w : World) (g : Nat) (t : TypeId) (cs : Array Value) (fr : Nat × Nat) (d : TypeDesc)
    (hp : tmps.getD p undef = .pointer (some ⟨g, 0, none⟩)) (hg : w.heap[g]? = some (.cells cs t fr))
    (hu : P.underlying ty = some d) (hd : (match d with | .struct _ | .array _ _ => true | _ => false) = true) (hi : (P.info? ty).map (·.size) = some cs.size) {b : Value} (hb : tmps.getD u undef = b) :
    (results fn tmps).run P w = .ok (.tuple #[.agg cs, b]) w := by
  have hp' : tmps[p]?.getD undef = .pointer (some ⟨g, 0, none⟩) := by simpa using hp
  have hb' : tmps[u]?.getD undef = b := by simpa using hb
  simp [results, h, hp', hb', asAddr, run_loadVar_row w g t ty cs fr d hg hu hd hi]
/-- the engine's blocks behind a step -/
def CEnd (B q : Nat) (cf : Conf) (a m : Nat) (st' : AS) (S : Nat → Prop) (val : Value) (w : World) (e : Ending) (w' : World) : Prop :=
  e = .returned val ∧ ∃ S', CR w' B q cf a m st' S' ∧ (∀ k, S' k → S k ∨ w.heap.size ≤ k) ∧ FrS w w' S
/-- an engine's versions: what each handle names -/
structure CI (m : Nat) (st : AS) (nd : Int → Nd) (U : List Int) (K : Nat) : Prop where
  ti : TI st U K
  cov : ∀ x, hR x → isA st x = true → x ∈ U
  val : ∀ x, hR x → isA st x = true → VN m (nd x) ∧ rdA (27 + m) x st = padT (27 + m) (encT (nd x))
theorem CI.nil (m : Nat) (nd : Int → Nd) : CI m (0, [], []) nd [] 0 := ⟨TI.nil, (fun x _ h => by simp [isA] at h), (fun x _ h => by simp [isA] at h)⟩
def nd0 : Nd := ((0, 0, false, { data := #[] }), 0)
def ndv (n : Nd) : Value := .agg #[.int .i64 n.1.1, .int .i64 n.1.2.1, .bool n.1.2.2.1, .string n.1.2.2.2, .int .u64 n.2]
def mayV (m : Nat) (v : Vn) : Bool := decide (1 ≤ v.1) && decide (0 ≤ v.2.1) && decide (v.2.1 ≤ 1048576) && decide (v.2.2.2.size ≤ m) && !(v.2.2.1 && decide (v.2.2.2.size ≠ 0))
theorem mayV_VN {m : Nat} {v : Vn} {x : Int} (h : mayV m v = true) (hw : v.1 ≤ 9223372036854775807) (hx : 0 ≤ x ∧ x ≤ 18446744073709551615) : VN m (v, x) := by
  unfold mayV at h
  simp only [Bool.and_eq_true, decide_eq_true_eq, Bool.not_eq_true', Bool.and_eq_false_iff, decide_eq_false_iff_not, Decidable.not_not] at h
  obtain ⟨⟨⟨⟨h1, h2⟩, h3⟩, h4⟩, h5⟩ := h
  refine ⟨⟨h1, hw⟩, ⟨h2, h3⟩, h4, fun hb => ?_, hx⟩
  rcases h5 with h5 | h5
  · rw [hb] at h5; cases h5
  · exact h5
theorem VN_mayV {m : Nat} {n : Nd} (h : VN m n) : mayV m n.1 = true := by
  obtain ⟨⟨h1, _⟩, ⟨h2, h3⟩, h4, h5, _⟩ := h
  unfold mayV
  simp only [Bool.and_eq_true, decide_eq_true_eq, Bool.not_eq_true', Bool.and_eq_false_iff, decide_eq_false_iff_not, Decidable.not_not]
  refine ⟨⟨⟨⟨h1, h2⟩, h3⟩, h4⟩, ?_⟩
  cases hb : n.1.2.2.1 with
  | false => exact .inl rfl
  | true => exact .inr (h5 hb)
theorem built68 (cf : Conf) (a : Nat) : Try.prog.built 68 [(0, .agg #[.int .i64 cf.ta, .int .i64 cf.ac, .int .i64 cf.ke, .int .i64 cf.de, .int .i64 cf.ts, .int .i64 cf.kl, .int .i64 cf.vl, .int .i64 cf.fa]), (1, .pointer (some ⟨a, 0, none⟩))] = some #[.int .i64 cf.ta, .int .i64 cf.ac, .int .i64 cf.ke, .int .i64 cf.de, .int .i64 cf.ts, .int .i64 cf.kl, .int .i64 cf.vl, .int .i64 cf.fa, .pointer (some ⟨a, 0, none⟩)] := by kernel_rfl
end Go.Proofs.Ytbncpfkoeahhpaa
