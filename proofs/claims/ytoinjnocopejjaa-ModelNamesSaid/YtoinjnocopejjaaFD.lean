/- What the examples of refusals and fulls make of the model. -/
import Derived.Test.YtoinjnocopejjaaWO
import Derived.Test.YtoinjnocopejjaaMO2
namespace Go.Proofs.Ytoinjnocopejjaa
open Go.ChangeShapes Go.WideShapes Go.ChangeAt Go.RowKit Go.Maps
set_option linter.unusedVariables false
set_option linter.unusedSimpArgs false
theorem mq_is {W : World} {B p : Nat} {own : Nat → Nat} {s s' : MS} (h : MQ_ W B own p s) (hn : s.txns.length ≤ 100000) (t tx li : Int) (ke en va : ByteArray) (kn eg : Nat) (kI eI : Int) (hk : kI = kn) (he : eI = eg) (hx : COk (kn, tx, ke, en, va, li, eg)) (er : Int) (f : Bool) (v : ByteArray) (ha : doM s t (kn, tx, ke, en, va, li, eg) = (s', (er, f, v, []))) :
    Calls Try.prog 30 #[.pointer (some ⟨p, 0, none⟩), .int .i64 t, .agg #[.int .u8 kI, .int .i64 tx, .string ke, .string en, .string va, .int .i64 li, .int .u8 eI], .int .i64 er, .bool f, .string v] W fun e w' => e = .returned (.bool true) ∧ MQ_ w' B (ownT W own p) p s' ∧ Kp W w' ∧ ∀ n0 w0, Below n0 w0 W → n0 ≤ B → Below n0 w0 w' := by
  subst hk he
  obtain ⟨S, h1, h2⟩ := h
  have := is_yes B p s S t tx li ke en va kn eg W h1 hn hx er f v (by rw [ha])
  rw [ha] at this
  refine this.mono ?_
  rintro e w' ⟨rfl, hmv⟩
  obtain ⟨m1, _, m3, m4⟩ := MQ_.moved ⟨S, h1, h2⟩ h1 h2 hmv
  exact ⟨rfl, m1, m3, m4⟩
theorem cok_of {x : Cl} (h1 : x.1 ≤ 255) (h2 : x.2.2.2.2.2.2 ≤ 255) (h3 : -1000 ≤ x.2.1 ∧ x.2.1 ≤ 1000) (h4 : -1000 ≤ x.2.2.2.2.2.1 ∧ x.2.2.2.2.2.1 ≤ 1000) (h5 : x.2.2.1.size ≤ 1000) (h6 : x.2.2.2.1.size ≤ 1000) (h7 : x.2.2.2.2.1.size ≤ 1000) : COk x := by
  have hm : (1000 : Nat) ≤ maxLen := by decide
  exact ⟨h1, h2, by omega, by omega, Nat.le_trans h5 hm, Nat.le_trans h6 hm, Nat.le_trans h7 hm⟩
def ns0 : MS := newM cfS
def ns1 : MS := (doM ns0 0 (onC 1 0 { data := #[] } { data := #[] })).1
def ns2 : MS := (doM ns1 0 (onC 7 1 { data := #[] } { data := #[] })).1
def ns3 : MS := (doM ns2 0 (onC 1 0 { data := #[] } { data := #[] })).1
def fs0 : MS := ns3
def fs1 : MS := (doM fs0 0 (onC 3 2 { data := #[98] } { data := #[49] })).1
def fs2 : MS := (doM fs1 0 (onC 3 2 { data := #[97] } { data := #[50] })).1
def fs3 : MS := (doM fs2 0 (onC 3 2 { data := #[99] } { data := #[51] })).1
def fs4 : MS := (doM fs3 0 (onC 3 2 { data := #[97] } { data := #[52] })).1
def fs5 : MS := (doM fs4 0 (onC 4 2 { data := #[122, 122] } { data := #[] })).1
def fs6 : MS := (doM fs5 0 (onC 1 0 { data := #[] } { data := #[] })).1
def fs7 : MS := (doM fs6 1 (onC 1 0 { data := #[] } { data := #[] })).1
def fs8 : MS := (doM fs7 0 (onC 6 2 { data := #[] } { data := #[] })).1
def fs9 : MS := (doM fs8 0 (onC 1 0 { data := #[] } { data := #[] })).1
def fs10 : MS := (doM fs9 0 (onC 3 3 { data := #[97] } { data := #[53] })).1
def fs11 : MS := (doM fs10 0 (onC 3 4 { data := #[97] } { data := #[53] })).1
def fs12 : MS := (doM fs11 0 (onC 6 4 { data := #[] } { data := #[] })).1
def fs13 : MS := (doM fs12 0 (onC 1 0 { data := #[] } { data := #[] })).1
def fs14 : MS := (doM fs13 0 (onC 3 5 { data := #[97] } { data := #[54] })).1
def fs15 : MS := (doM fs14 0 (onC 4 5 { data := #[97] } { data := #[] })).1
def fs16 : MS := (doM fs15 0 (onC 7 3 { data := #[] } { data := #[] })).1
def fs17 : MS := (doM fs16 0 (onC 8 0 { data := #[] } { data := #[] })).1
def fs18 : MS := (doM fs17 0 (onC 3 5 { data := #[97] } { data := #[54] })).1
theorem nd0 : doM ns0 0 (onC 1 0 { data := #[] } { data := #[] }) = (ns1, (0, false, { data := #[] }, [])) := by kernel_rfl
theorem nl0 : ns0.txns.length ≤ 100000 := Nat.le_of_ble_eq_true (by kernel_rfl)
theorem nd1 : doM ns1 0 (onC 7 1 { data := #[] } { data := #[] }) = (ns2, (0, false, { data := #[] }, [])) := by kernel_rfl
theorem nl1 : ns1.txns.length ≤ 100000 := Nat.le_of_ble_eq_true (by kernel_rfl)
theorem nd2 : doM ns2 0 (onC 1 0 { data := #[] } { data := #[] }) = (ns3, (0, false, { data := #[] }, [])) := by kernel_rfl
theorem nl2 : ns2.txns.length ≤ 100000 := Nat.le_of_ble_eq_true (by kernel_rfl)
theorem nl3 : ns3.txns.length ≤ 100000 := Nat.le_of_ble_eq_true (by kernel_rfl)
theorem rf0 : refM ns3 (-1) (1, 0, { data := #[] }, { data := #[] }, { data := #[] }, 0, 0) = 1 := by kernel_rfl
theorem rd0 : doM ns3 (-1) (1, 0, { data := #[] }, { data := #[] }, { data := #[] }, 0, 0) = (ns3, (1, false, { data := #[] }, [])) := by kernel_rfl
theorem rf1 : refM ns3 2 (1, 0, { data := #[] }, { data := #[] }, { data := #[] }, 0, 0) = 1 := by kernel_rfl
theorem rd1 : doM ns3 2 (1, 0, { data := #[] }, { data := #[] }, { data := #[] }, 0, 0) = (ns3, (1, false, { data := #[] }, [])) := by kernel_rfl
theorem rf2 : refM ns3 0 (0, 0, { data := #[] }, { data := #[] }, { data := #[] }, 0, 0) = 1 := by kernel_rfl
theorem rd2 : doM ns3 0 (0, 0, { data := #[] }, { data := #[] }, { data := #[] }, 0, 0) = (ns3, (1, false, { data := #[] }, [])) := by kernel_rfl
theorem rf3 : refM ns3 0 (10, 0, { data := #[] }, { data := #[] }, { data := #[] }, 0, 0) = 1 := by kernel_rfl
theorem rd3 : doM ns3 0 (10, 0, { data := #[] }, { data := #[] }, { data := #[] }, 0, 0) = (ns3, (1, false, { data := #[] }, [])) := by kernel_rfl
theorem rf4 : refM ns3 0 (9, 0, { data := #[] }, { data := #[] }, { data := #[] }, 0, 0) = 1 := by kernel_rfl
theorem rd4 : doM ns3 0 (9, 0, { data := #[] }, { data := #[] }, { data := #[] }, 0, 0) = (ns3, (1, false, { data := #[] }, [])) := by kernel_rfl
theorem rf5 : refM ns3 0 (9, 0, { data := #[] }, { data := #[] }, { data := #[] }, 0, 3) = 1 := by kernel_rfl
theorem rd5 : doM ns3 0 (9, 0, { data := #[] }, { data := #[] }, { data := #[] }, 0, 3) = (ns3, (1, false, { data := #[] }, [])) := by kernel_rfl
theorem rf6 : refM ns3 0 (9, 0, { data := #[] }, { data := #[] }, { data := #[] }, 0, 2) = 0 := by kernel_rfl
theorem rd6 : doM ns3 0 (9, 0, { data := #[] }, { data := #[] }, { data := #[] }, 0, 2) = (ns3, (0, false, { data := #[] }, [])) := by kernel_rfl
theorem rf7 : refM ns3 0 (2, 0, { data := #[97] }, { data := #[] }, { data := #[] }, 0, 0) = 30 := by kernel_rfl
theorem rd7 : doM ns3 0 (2, 0, { data := #[97] }, { data := #[] }, { data := #[] }, 0, 0) = (ns3, (30, false, { data := #[] }, [])) := by kernel_rfl
theorem rf8 : refM ns3 0 (2, 3, { data := #[97] }, { data := #[] }, { data := #[] }, 0, 0) = 30 := by kernel_rfl
theorem rd8 : doM ns3 0 (2, 3, { data := #[97] }, { data := #[] }, { data := #[] }, 0, 0) = (ns3, (30, false, { data := #[] }, [])) := by kernel_rfl
theorem rf9 : refM ns3 1 (2, 2, { data := #[97] }, { data := #[] }, { data := #[] }, 0, 0) = 30 := by kernel_rfl
theorem rd9 : doM ns3 1 (2, 2, { data := #[97] }, { data := #[] }, { data := #[] }, 0, 0) = (ns3, (30, false, { data := #[] }, [])) := by kernel_rfl
theorem rf10 : refM ns3 0 (2, (-1), { data := #[0, 0, 0] }, { data := #[] }, { data := #[] }, 0, 0) = 30 := by kernel_rfl
theorem rd10 : doM ns3 0 (2, (-1), { data := #[0, 0, 0] }, { data := #[] }, { data := #[] }, 0, 0) = (ns3, (30, false, { data := #[] }, [])) := by kernel_rfl
theorem rf11 : refM ns3 0 (2, 1, { data := #[0, 0, 0] }, { data := #[] }, { data := #[] }, 0, 0) = 31 := by kernel_rfl
theorem rd11 : doM ns3 0 (2, 1, { data := #[0, 0, 0] }, { data := #[] }, { data := #[] }, 0, 0) = (ns3, (31, false, { data := #[] }, [])) := by kernel_rfl
theorem rf12 : refM ns3 0 (6, 1, { data := #[] }, { data := #[] }, { data := #[] }, 0, 0) = 31 := by kernel_rfl
theorem rd12 : doM ns3 0 (6, 1, { data := #[] }, { data := #[] }, { data := #[] }, 0, 0) = (ns3, (31, false, { data := #[] }, [])) := by kernel_rfl
theorem rf13 : refM ns3 0 (2, 2, { data := #[] }, { data := #[] }, { data := #[] }, 0, 0) = 32 := by kernel_rfl
theorem rd13 : doM ns3 0 (2, 2, { data := #[] }, { data := #[] }, { data := #[] }, 0, 0) = (ns3, (32, false, { data := #[] }, [])) := by kernel_rfl
theorem rf14 : refM ns3 0 (2, 2, { data := #[0, 0, 0] }, { data := #[] }, { data := #[] }, 0, 0) = 32 := by kernel_rfl
theorem rd14 : doM ns3 0 (2, 2, { data := #[0, 0, 0] }, { data := #[] }, { data := #[] }, 0, 0) = (ns3, (32, false, { data := #[] }, [])) := by kernel_rfl
theorem rf15 : refM ns3 0 (3, 2, { data := #[] }, { data := #[] }, { data := #[97] }, 0, 0) = 32 := by kernel_rfl
theorem rd15 : doM ns3 0 (3, 2, { data := #[] }, { data := #[] }, { data := #[97] }, 0, 0) = (ns3, (32, false, { data := #[] }, [])) := by kernel_rfl
theorem rf16 : refM ns3 0 (3, 2, { data := #[97] }, { data := #[] }, { data := #[0, 0, 0] }, 0, 0) = 32 := by kernel_rfl
theorem rd16 : doM ns3 0 (3, 2, { data := #[97] }, { data := #[] }, { data := #[0, 0, 0] }, 0, 0) = (ns3, (32, false, { data := #[] }, [])) := by kernel_rfl
theorem rf17 : refM ns3 0 (4, 2, { data := #[0, 0, 0] }, { data := #[] }, { data := #[] }, 0, 0) = 32 := by kernel_rfl
theorem rd17 : doM ns3 0 (4, 2, { data := #[0, 0, 0] }, { data := #[] }, { data := #[] }, 0, 0) = (ns3, (32, false, { data := #[] }, [])) := by kernel_rfl
theorem rf18 : refM ns3 0 (4, 2, { data := #[97] }, { data := #[] }, { data := #[0, 0, 0] }, 0, 0) = 0 := by kernel_rfl
theorem rd18 : doM ns3 0 (4, 2, { data := #[97] }, { data := #[] }, { data := #[0, 0, 0] }, 0, 0) = (ns3, (0, false, { data := #[] }, [])) := by kernel_rfl
theorem rf19 : refM ns3 0 (5, 2, { data := #[0, 0, 0] }, { data := #[] }, { data := #[] }, 0, 0) = 32 := by kernel_rfl
theorem rd19 : doM ns3 0 (5, 2, { data := #[0, 0, 0] }, { data := #[] }, { data := #[] }, 0, 0) = (ns3, (32, false, { data := #[] }, [])) := by kernel_rfl
theorem rf20 : refM ns3 0 (5, 2, { data := #[] }, { data := #[0, 0, 0] }, { data := #[] }, 0, 0) = 32 := by kernel_rfl
theorem rd20 : doM ns3 0 (5, 2, { data := #[] }, { data := #[0, 0, 0] }, { data := #[] }, 0, 0) = (ns3, (32, false, { data := #[] }, [])) := by kernel_rfl
theorem rf21 : refM ns3 0 (5, 2, { data := #[] }, { data := #[] }, { data := #[] }, (-1), 0) = 32 := by kernel_rfl
theorem rd21 : doM ns3 0 (5, 2, { data := #[] }, { data := #[] }, { data := #[] }, (-1), 0) = (ns3, (32, false, { data := #[] }, [])) := by kernel_rfl
theorem rf22 : refM ns3 0 (5, 2, { data := #[] }, { data := #[] }, { data := #[] }, 129, 0) = 32 := by kernel_rfl
theorem rd22 : doM ns3 0 (5, 2, { data := #[] }, { data := #[] }, { data := #[] }, 129, 0) = (ns3, (32, false, { data := #[] }, [])) := by kernel_rfl
theorem rf23 : refM ns3 0 (5, 2, { data := #[] }, { data := #[] }, { data := #[] }, 128, 0) = 0 := by kernel_rfl
theorem rd23 : doM ns3 0 (5, 2, { data := #[] }, { data := #[] }, { data := #[] }, 128, 0) = (ns3, (0, false, { data := #[] }, [])) := by kernel_rfl
theorem fd0 : doM fs0 0 (onC 3 2 { data := #[98] } { data := #[49] }) = (fs1, (0, false, { data := #[] }, [])) := by kernel_rfl
theorem fl0 : fs0.txns.length ≤ 100000 := Nat.le_of_ble_eq_true (by kernel_rfl)
theorem fd1 : doM fs1 0 (onC 3 2 { data := #[97] } { data := #[50] }) = (fs2, (0, false, { data := #[] }, [])) := by kernel_rfl
theorem fl1 : fs1.txns.length ≤ 100000 := Nat.le_of_ble_eq_true (by kernel_rfl)
theorem fd2 : doM fs2 0 (onC 3 2 { data := #[99] } { data := #[51] }) = (fs3, (34, false, { data := #[] }, [])) := by kernel_rfl
theorem fl2 : fs2.txns.length ≤ 100000 := Nat.le_of_ble_eq_true (by kernel_rfl)
theorem fd3 : doM fs3 0 (onC 3 2 { data := #[97] } { data := #[52] }) = (fs4, (0, false, { data := #[] }, [])) := by kernel_rfl
theorem fl3 : fs3.txns.length ≤ 100000 := Nat.le_of_ble_eq_true (by kernel_rfl)
theorem fk_ret : sumK retR fs4.rows = 2 := by kernel_rfl
theorem fd4 : doM fs4 0 (onC 4 2 { data := #[122, 122] } { data := #[] }) = (fs5, (0, false, { data := #[] }, [])) := by kernel_rfl
theorem fl4 : fs4.txns.length ≤ 100000 := Nat.le_of_ble_eq_true (by kernel_rfl)
theorem fk_sc0 : doM fs5 0 (5, 2, { data := #[] }, { data := #[] }, { data := #[] }, 9, 0) = (fs5, (0, false, { data := #[] }, [({ data := #[97] }, { data := #[52] }), ({ data := #[98] }, { data := #[49] })])) := by kernel_rfl
theorem fk_sc1 : doM fs5 0 (5, 2, { data := #[97] }, { data := #[98] }, { data := #[] }, 9, 0) = (fs5, (0, false, { data := #[] }, [({ data := #[97] }, { data := #[52] })])) := by kernel_rfl
theorem fk_sc2 : doM fs5 0 (5, 2, { data := #[97, 97] }, { data := #[] }, { data := #[] }, 9, 0) = (fs5, (0, false, { data := #[] }, [({ data := #[98] }, { data := #[49] })])) := by kernel_rfl
theorem fk_sc3 : doM fs5 0 (5, 2, { data := #[] }, { data := #[] }, { data := #[] }, 1, 0) = (fs5, (0, false, { data := #[] }, [({ data := #[97] }, { data := #[52] })])) := by kernel_rfl
theorem fk_sc4 : doM fs5 0 (5, 2, { data := #[98] }, { data := #[97] }, { data := #[] }, 9, 0) = (fs5, (0, false, { data := #[] }, [])) := by kernel_rfl
theorem fd5 : doM fs5 0 (onC 1 0 { data := #[] } { data := #[] }) = (fs6, (0, false, { data := #[] }, [])) := by kernel_rfl
theorem fl5 : fs5.txns.length ≤ 100000 := Nat.le_of_ble_eq_true (by kernel_rfl)
theorem fd6 : doM fs6 1 (onC 1 0 { data := #[] } { data := #[] }) = (fs7, (34, false, { data := #[] }, [])) := by kernel_rfl
theorem fl6 : fs6.txns.length ≤ 100000 := Nat.le_of_ble_eq_true (by kernel_rfl)
theorem fd7 : doM fs7 0 (onC 6 2 { data := #[] } { data := #[] }) = (fs8, (0, false, { data := #[] }, [])) := by kernel_rfl
theorem fl7 : fs7.txns.length ≤ 100000 := Nat.le_of_ble_eq_true (by kernel_rfl)
theorem fd8 : doM fs8 0 (onC 1 0 { data := #[] } { data := #[] }) = (fs9, (0, false, { data := #[] }, [])) := by kernel_rfl
theorem fl8 : fs8.txns.length ≤ 100000 := Nat.le_of_ble_eq_true (by kernel_rfl)
theorem fd9 : doM fs9 0 (onC 3 3 { data := #[97] } { data := #[53] }) = (fs10, (33, false, { data := #[] }, [])) := by kernel_rfl
theorem fl9 : fs9.txns.length ≤ 100000 := Nat.le_of_ble_eq_true (by kernel_rfl)
theorem fd10 : doM fs10 0 (onC 3 4 { data := #[97] } { data := #[53] }) = (fs11, (0, false, { data := #[] }, [])) := by kernel_rfl
theorem fl10 : fs10.txns.length ≤ 100000 := Nat.le_of_ble_eq_true (by kernel_rfl)
theorem fd11 : doM fs11 0 (onC 6 4 { data := #[] } { data := #[] }) = (fs12, (0, false, { data := #[] }, [])) := by kernel_rfl
theorem fl11 : fs11.txns.length ≤ 100000 := Nat.le_of_ble_eq_true (by kernel_rfl)
theorem fd12 : doM fs12 0 (onC 1 0 { data := #[] } { data := #[] }) = (fs13, (0, false, { data := #[] }, [])) := by kernel_rfl
theorem fl12 : fs12.txns.length ≤ 100000 := Nat.le_of_ble_eq_true (by kernel_rfl)
theorem fd13 : doM fs13 0 (onC 3 5 { data := #[97] } { data := #[54] }) = (fs14, (34, false, { data := #[] }, [])) := by kernel_rfl
theorem fl13 : fs13.txns.length ≤ 100000 := Nat.le_of_ble_eq_true (by kernel_rfl)
theorem fd14 : doM fs14 0 (onC 4 5 { data := #[97] } { data := #[] }) = (fs15, (34, false, { data := #[] }, [])) := by kernel_rfl
theorem fl14 : fs14.txns.length ≤ 100000 := Nat.le_of_ble_eq_true (by kernel_rfl)
theorem fd15 : doM fs15 0 (onC 7 3 { data := #[] } { data := #[] }) = (fs16, (0, false, { data := #[] }, [])) := by kernel_rfl
theorem fl15 : fs15.txns.length ≤ 100000 := Nat.le_of_ble_eq_true (by kernel_rfl)
theorem fd16 : doM fs16 0 (onC 8 0 { data := #[] } { data := #[] }) = (fs17, (0, false, { data := #[] }, [])) := by kernel_rfl
theorem fl16 : fs16.txns.length ≤ 100000 := Nat.le_of_ble_eq_true (by kernel_rfl)
theorem fk_floor : fs17.floor = 2 := by kernel_rfl
theorem fk_vers : ((getR fs17 { data := #[97] }).1).length = 1 := by kernel_rfl
theorem fd17 : doM fs17 0 (onC 3 5 { data := #[97] } { data := #[54] }) = (fs18, (0, false, { data := #[] }, [])) := by kernel_rfl
theorem fl17 : fs17.txns.length ≤ 100000 := Nat.le_of_ble_eq_true (by kernel_rfl)
theorem fk_int : (getR fs18 { data := #[97] }).2 = ⟨5, 0, false, { data := #[54] }⟩ := by kernel_rfl
theorem fk_act : actN fs18.txns = 1 := by kernel_rfl
theorem fl18 : fs18.txns.length ≤ 100000 := Nat.le_of_ble_eq_true (by kernel_rfl)
end Go.Proofs.Ytoinjnocopejjaa
