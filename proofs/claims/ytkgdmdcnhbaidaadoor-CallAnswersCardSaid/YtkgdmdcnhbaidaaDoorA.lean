/- The words of calls, as plain functions. -/
import Derived.Test.YtkgdmdcnhbaidaaDoorSl
import Derived.Lib.AtoiAll
import Derived.Lib.ItoaNum
import Derived.Lib.Split
import Derived.Lib.Join
import Derived.Lib.Bytealg
namespace Go.Proofs.YtkgdmdcnhbaidaaDoor
open Go.ChangeShapes Go.WideShapes Go.ChangeAt Go.RowKit
set_option linter.unusedVariables false
set_option linter.unusedSimpArgs false

/-- what a Kind names: tx, key, end, value, limit, engine -/
abbrev Nm := Bool × Bool × Bool × Bool × Bool × Bool
def nm0 : Nm := (false, false, false, false, false, false)
def nmK : Nat → Nm
  | 2 => (true, true, false, false, false, false)
  | 3 => (true, true, false, true, false, false)
  | 4 => (true, true, false, false, false, false)
  | 5 => (true, true, true, false, true, false)
  | 6 => (true, false, false, false, false, false)
  | 7 => (true, false, false, false, false, false)
  | 9 => (false, false, false, false, false, true)
  | _ => nm0
def wdL : List ByteArray := [{ data := #[] }, { data := #[98, 101, 103, 105, 110] }, { data := #[103, 101, 116] }, { data := #[112, 117, 116] }, { data := #[100, 101, 108, 101, 116, 101] }, { data := #[115, 99, 97, 110] }, { data := #[99, 111, 109, 109, 105, 116] }, { data := #[97, 98, 111, 114, 116] }, { data := #[118, 97, 99, 117, 117, 109] }, { data := #[109, 105, 103, 114, 97, 116, 101] }]
/-- a call: kind, tx, key, end, value, limit, engine -/
abbrev Cl := Nat × Int × ByteArray × ByteArray × ByteArray × Int × Nat
def mayC (x : Cl) : Bool := decide (1 ≤ x.1) && decide (x.1 ≤ 9) && !((nmK x.1).2.2.2.2.2 && decide (x.2.2.2.2.2.2 ≠ 1) && decide (x.2.2.2.2.2.2 ≠ 2))
def emp : ByteArray := { data := #[] }
def digB : List UInt8 := [48, 49, 50, 51, 52, 53, 54, 55, 56, 57, 97, 98, 99, 100, 101, 102]
def hexL : List UInt8 → List UInt8
  | [] => []
  | c :: l => digB.getD (c.toNat / 16) 0 :: digB.getD (c.toNat % 16) 0 :: hexL l
def ofL (l : List UInt8) : ByteArray := { data := l.toArray }
def hexP (s : ByteArray) : ByteArray := if s.size = 0 then { data := #[45] } else ofL (hexL s.data.toList)
def digI (c : UInt8) : Int := Lib.indexByte digB c
def unhexL : List UInt8 → Option (List UInt8)
  | [] => some []
  | [_] => none
  | a :: b :: l => if digI a < 0 ∨ digI b < 0 then none else (unhexL l).map (fun r => UInt8.ofNat (16 * (digI a).toNat + (digI b).toNat) :: r)
def unhexP (w : ByteArray) : Option ByteArray := if w = { data := #[45] } then some emp else if w.size = 0 then none else (unhexL w.data.toList).map ofL
def numP (w : ByteArray) : Option Int := match Lib.atoiAll w.data.toList with
  | .ok v => if Lib.itoa v = w.data.toList then some v else none
  | _ => none
/-- a reader: the words ahead, something was wrong -/
abbrev Rd_ := List ByteArray × Bool
def nextR : Rd_ → ByteArray × Rd_
  | ([], _) => (emp, ([], true))
  | (a :: l, b) => (a, (l, b))
def numR (is : Bool) (r : Rd_) : Int × Rd_ := if is = false then (0, r) else ((numP (nextR r).1).getD 0, ((nextR r).2.1, (nextR r).2.2 || !(numP (nextR r).1).isSome))
def txtR (is : Bool) (r : Rd_) : ByteArray × Rd_ := if is = false then (emp, r) else ((unhexP (nextR r).1).getD emp, ((nextR r).2.1, (nextR r).2.2 || !(unhexP (nextR r).1).isSome))
def overR (r : Rd_) : Bool := !r.2 && decide (r.1.length = 0)
def fw (w : ByteArray) : Nat → List ByteArray → Nat
  | _, [] => 0
  | k, a :: l => if a = w then k else fw w (k + 1) l
def kindW (w : ByteArray) : Nat := fw w 0 wdL
end Go.Proofs.YtkgdmdcnhbaidaaDoor
