/- The law's alloc; the examples. -/
import Derived.Test.YtjkohdenmiljpaaH
import Derived.Laws.MakeOwn
namespace Go.Proofs.Ytjkohdenmiljpaa
open Go.ChangeShapes Go.WideShapes Go.ChangeAt Go.RowKit Go.Maps
set_option linter.unusedVariables false
set_option linter.unusedSimpArgs false

set_option maxRecDepth 100000 in
set_option maxHeartbeats 4000000 in
theorem al_full (B p b : Nat) (slot fresh last : Int) (C bs : List Int) (w : World) (h : PgAt w B p b slot fresh last C bs) (h2 : 2 ≤ slot) (h3 : slot ≤ 4096) (hr : 4096 / slot - (C.length : Nat) = 0) : Calls Try.prog 19 #[.pointer (some ⟨p, 0, none⟩)] w fun e w' => e = .returned (.int .u16 9) ∧ Below w.heap.size w w' := by
  have HR := Lib.hid (alloc_full B p b slot fresh last C bs w h h2 h3 hr)
  clear h h2 h3 hr
  go_enter Try.func19, Try.ntmps19
  go_wp2_with fail
  refine HR.out.mono ?_
  rintro e w1 ⟨rfl, hb⟩
  have HB := Lib.hid hb
  clear hb HR
  go_wp2
  go_ret
  exact ⟨rfl, HB.out⟩
set_option maxRecDepth 100000 in
set_option maxHeartbeats 4000000 in
theorem al_of (B p b s o : Nat) (fresh last fresh' last' : Int) (C bs : List Int) (w : World) (h : PgAt w B p b (s : Int) fresh last C bs) (hs : 2 ≤ s) (ho : o + s ≤ 4096) (hr : ¬ 4096 / (s : Int) - (C.length : Nat) = 0)
    (HN : ∀ W, PgAt W B p b (s : Int) fresh last C bs → Calls Try.prog 31 #[.pointer (some ⟨p, 0, none⟩)] W fun e w' => e = .returned (.int .u16 (o : Int)) ∧ PgAt w' B p b (s : Int) fresh' last' C bs ∧ W.grownBy w' (some p)) :
    Calls Try.prog 19 #[.pointer (some ⟨p, 0, none⟩)] w fun e w' => e = .returned (.int .u16 (o : Int)) ∧ PgAt w' B p b (s : Int) fresh' last' (putC C o) (fillZ bs o s) ∧ Fr w w' p b := by
  have HR := Lib.hid (alloc_of B p b s o fresh last fresh' last' C bs w h hs ho hr HN)
  clear h hs ho hr HN
  go_enter Try.func19, Try.ntmps19
  go_wp2_with fail
  refine HR.out.mono ?_
  rintro e w1 ⟨rfl, h1, h2⟩
  have H1 := Lib.hid h1
  have H2 := Lib.hid h2
  clear h1 h2 HR
  go_wp2
  go_ret
  exact ⟨rfl, H1.out, H2.out⟩
/-- all 00 -/
def zs : List Int := List.replicate 4096 0
theorem zs_bytes : isBytes zs := fun i hi => by unfold zs; rw [List.getD_eq_getElem?_getD, List.getElem?_replicate]; split <;> simp
def bs1 : List Int := putI zs 1000 2 65535
def bs2 : List Int := putI bs1 3000 2 1000
def bs5 : List Int := fillZ (putS zs 1000 ⟨#[97, 98]⟩) 1002 998
theorem fill_zs (o n : Nat) (h : o + n ≤ 4096) : fillZ zs o n = zs := by
  unfold fillZ zs
  rw [List.take_replicate, List.drop_replicate, List.replicate_append_replicate, List.replicate_append_replicate]
  congr 1; omega
set_option maxRecDepth 1000000 in
theorem fill_2 : fillZ bs2 3000 1000 = bs1 := by decide +kernel
set_option maxRecDepth 1000000 in
theorem fill_1 : fillZ bs1 1000 1000 = zs := by decide +kernel
set_option maxRecDepth 1000000 in
theorem get_2 : getI bs2 3000 2 = 1000 := by decide +kernel
set_option maxRecDepth 1000000 in
theorem get_1 : getI bs1 1000 2 = 65535 := by decide +kernel
def ab998 : ByteArray := ⟨#[97, 98]⟩ ++ strOfNums (List.replicate 998 0)
set_option maxRecDepth 1000000 in
theorem read_5 : rdS bs5 1000 1000 = ab998 := by
  have h : (rdS bs5 1000 1000).data.toList = ab998.data.toList := by decide +kernel
  cases hx : rdS bs5 1000 1000; cases hy : ab998
  rw [hx, hy] at h
  congr 1
  exact Array.toList_inj.1 h
theorem bytes1 : isBytes bs1 := zs_bytes.putI 2 _ _
theorem bytes2 : isBytes bs2 := bytes1.putI 2 _ _
end Go.Proofs.Ytjkohdenmiljpaa
