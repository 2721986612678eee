/- A version's bytes, and what they tell. -/
import Derived.Test.YtbncpfkoeahhpaaJA
namespace Go.Proofs.Ytbncpfkoeahhpaa
open Go.ChangeShapes Go.WideShapes Go.ChangeAt Go.RowKit Go.Maps
set_option linter.unusedVariables false
set_option linter.unusedSimpArgs false

theorem putI_other (a j : Nat) : ∀ (k : Nat) (bs : List Int) (m : Int), (j < a ∨ a + k ≤ j) → (putI bs a k m).getD j 0 = bs.getD j 0
  | 0, _, _, _ => rfl
  | k + 1, bs, m, h => by
    rw [putI_succ, putI_other a j k _ _ (by omega), List.getD_eq_getElem?_getD, List.getElem?_set_ne (by omega), ← List.getD_eq_getElem?_getD]
theorem getI_putI (a : Nat) : ∀ (k : Nat) (bs : List Int) (m : Int), a + k ≤ bs.length → 0 ≤ m → getI (putI bs a k m) a k = m % 256 ^ k
  | 0, _, m, _, _ => by simp [getI]
  | k + 1, bs, m, h, hm => by
    have hp : (256 : Int) ^ (k + 1) = 256 ^ k * 256 := Int.pow_succ 256 k
    rw [getI_succ, putI_succ, getI_putI a k _ _ (by simpa using (by omega : a + k ≤ bs.length)) (by omega), putI_other a (a + k) k _ _ (by omega)]
    rw [List.getD_eq_getElem?_getD, List.getElem?_set_self (by omega), Option.getD_some, hp, Int.mul_comm (256 ^ k) 256, Int.emod_def m (256 * 256 ^ k), ← Int.ediv_ediv_of_nonneg (by omega : (0 : Int) ≤ 256), Int.emod_def (m / 256), Int.mul_assoc]
    omega
theorem getI_congr (a : Nat) {bs cs : List Int} : ∀ k, (∀ j, a ≤ j → j < a + k → bs.getD j 0 = cs.getD j 0) → getI bs a k = getI cs a k
  | 0, _ => rfl
  | k + 1, h => by
    rw [getI_succ, getI_succ, getI_congr a k (fun j h1 h2 => h j h1 (by omega)), h (a + k) (by omega) (by omega)]
theorem getI_put_other {a k b l : Nat} {bs : List Int} {m : Int} (h : b + l ≤ a ∨ a + k ≤ b) : getI (putI bs a k m) b l = getI bs b l :=
  getI_congr b l fun j h1 h2 => putI_other a j k bs m (by omega)
theorem getI_app {a k : Nat} {bs cs : List Int} (h : a + k ≤ bs.length) : getI (bs ++ cs) a k = getI bs a k :=
  getI_congr a k fun j h1 h2 => by
    rw [List.getD_eq_getElem?_getD, List.getD_eq_getElem?_getD, List.getElem?_append_left (by omega)]
/-- writer, timestamp, tomb, value; a version, and the next one's handle -/
abbrev Vn := Int × Int × Bool × ByteArray
abbrev Nd := Vn × Int
def setT (b : Bool) (bs : List Int) : List Int := if b then bs.set 24 1 else bs
def encB (n : Nd) : List Int := putI (setT n.1.2.2.1 (putI (putI (putI (List.replicate 27 0) 0 8 n.1.1) 8 8 n.1.2.1) 16 8 n.2)) 25 2 (n.1.2.2.2.size : Int)
def encT (n : Nd) : ByteArray := strOfNums (encB n) ++ n.1.2.2.2
theorem setT_len (b : Bool) (bs : List Int) : (setT b bs).length = bs.length := by unfold setT; split <;> simp
theorem encB_len (n : Nd) : (encB n).length = 27 := by
  unfold encB
  rw [putI_len, setT_len, putI_len, putI_len, putI_len, List.length_replicate]
theorem encT_size (n : Nd) : (encT n).size = 27 + n.1.2.2.2.size := by
  unfold encT
  rw [ByteArray.size_append, strOfNums_size, encB_len]
theorem isBytes_zero : isBytes (List.replicate 27 0) := by
  intro i hi
  rw [List.getD_eq_getElem?_getD, List.getElem?_replicate]
  split <;> simp
theorem isBytes_setT {b : Bool} {bs : List Int} (h : isBytes bs) : isBytes (setT b bs) := by
  unfold setT
  split
  · have := h.set 24 1
    simpa using this
  · exact h
theorem isBytes_encB (n : Nd) : isBytes (encB n) := isBytes.putI _ _ _ (isBytes_setT (isBytes.putI _ _ _ (isBytes.putI _ _ _ (isBytes.putI _ _ _ isBytes_zero))))
/-- what a slot's bytes tell -/
def dW (T : ByteArray) : Int := getI (sb T) 0 8
def dS (T : ByteArray) : Int := getI (sb T) 8 8
def dN (T : ByteArray) : Int := getI (sb T) 16 8
def dL (T : ByteArray) : Int := getI (sb T) 25 2
def dT (T : ByteArray) : Bool := decide ((sb T).getD 24 0 = 1)
theorem sb_app (A B : ByteArray) : sb (A ++ B) = sb A ++ sb B := by
  unfold sb
  rw [ByteArray.data_append, Array.toList_append, List.map_append]
theorem sb_str {bs : List Int} (h : isBytes bs) : sb (strOfNums bs) = bs := by
  unfold sb
  rw [strOfNums_data, List.map_map]
  refine List.ext_getElem? fun i => ?_
  rw [List.getElem?_map]
  cases hi : bs[i]? with
  | none => rfl
  | some x =>
    have hl := (List.getElem?_eq_some_iff.1 hi).1
    have := h i hl
    rw [List.getD_eq_getElem?_getD, hi, Option.getD_some] at this
    simp only [Option.map_some, Function.comp, Option.some.injEq]
    have h8 : (UInt8.ofNat x.toNat).toNat = x.toNat % 256 := UInt8.toNat_ofNat'
    omega
/-- a version that may be, of at most m bytes -/
def VN (m : Nat) (n : Nd) : Prop := (1 ≤ n.1.1 ∧ n.1.1 ≤ 9223372036854775807) ∧ (0 ≤ n.1.2.1 ∧ n.1.2.1 ≤ 1048576) ∧ n.1.2.2.2.size ≤ m ∧ (n.1.2.2.1 = true → n.1.2.2.2.size = 0) ∧ (0 ≤ n.2 ∧ n.2 ≤ 18446744073709551615)
theorem dec_front {n : Nd} {R : ByteArray} {m : Nat} (h : VN m n) (hm : m ≤ 256) : dW (encT n ++ R) = n.1.1 ∧ dS (encT n ++ R) = n.1.2.1 ∧ dN (encT n ++ R) = n.2 ∧ dL (encT n ++ R) = (n.1.2.2.2.size : Int) ∧ dT (encT n ++ R) = n.1.2.2.1 := by
  obtain ⟨⟨w, t, b, v⟩, x⟩ := n
  obtain ⟨hw, ht, hv, hb, hx⟩ := h
  simp only at hw ht hv hb hx
  have hsb : sb (encT ((w, t, b, v), x) ++ R) = encB ((w, t, b, v), x) ++ (sb v ++ sb R) := by
    unfold encT
    rw [sb_app, sb_app, sb_str (isBytes_encB _), List.append_assoc]
  have hl := encB_len ((w, t, b, v), x)
  have hset : ∀ (c : Bool) (bs : List Int) (a k : Nat), (24 < a ∨ a + k ≤ 24) → getI (setT c bs) a k = getI bs a k := fun c bs a k h => by
    unfold setT
    split
    · exact getI_congr a k fun j h1 h2 => by rw [List.getD_eq_getElem?_getD, List.getElem?_set_ne (by omega), ← List.getD_eq_getElem?_getD]
    · rfl
  have p8 : (256 : Int) ^ 8 = 18446744073709551616 := by decide
  have p2 : (256 : Int) ^ 2 = 65536 := by decide
  unfold dW dS dN dL dT
  rw [hsb, getI_app (by omega), getI_app (by omega), getI_app (by omega), getI_app (by omega), List.getD_eq_getElem?_getD, List.getElem?_append_left (by omega), ← List.getD_eq_getElem?_getD]
  unfold encB
  simp only
  refine ⟨?_, ?_, ?_, ?_, ?_⟩
  · rw [getI_put_other (by omega), hset _ _ _ _ (by omega), getI_put_other (by omega), getI_put_other (by omega), getI_putI _ _ _ _ (by simp) (by omega), p8]
    exact Int.emod_eq_of_lt (by omega) (by omega)
  · rw [getI_put_other (by omega), hset _ _ _ _ (by omega), getI_put_other (by omega), getI_putI _ _ _ _ (by simp [putI_len]) (by omega), p8]
    exact Int.emod_eq_of_lt (by omega) (by omega)
  · rw [getI_put_other (by omega), hset _ _ _ _ (by omega), getI_putI _ _ _ _ (by simp [putI_len]) (by omega), p8]
    exact Int.emod_eq_of_lt (by omega) (by omega)
  · rw [getI_putI _ _ _ _ (by simp [putI_len, setT_len]) (by omega), p2]
    exact Int.emod_eq_of_lt (by omega) (by omega)
  · rw [putI_other _ _ _ _ _ (by omega)]
    unfold setT
    cases b with
    | true =>
      rw [if_pos rfl, List.getD_eq_getElem?_getD, List.getElem?_set_self (by simp [putI_len])]
      rfl
    | false =>
      rw [if_neg (by simp), putI_other _ _ _ _ _ (by omega), putI_other _ _ _ _ _ (by omega), putI_other _ _ _ _ _ (by omega)]
      rfl
theorem dec_val (n : Nd) (R : ByteArray) : (encT n ++ R).extract 27 (27 + n.1.2.2.2.size) = n.1.2.2.2 := by
  obtain ⟨⟨w, t, b, v⟩, x⟩ := n
  simp only
  have hl : (strOfNums (encB ((w, t, b, v), x))).size = 27 := by rw [strOfNums_size, encB_len]
  apply ByteArray.ext
  unfold encT
  simp only
  rw [ByteArray.data_extract, ByteArray.data_append, ByteArray.data_append]
  have h1 : (strOfNums (encB ((w, t, b, v), x))).data.size = 27 := hl
  apply Array.ext'
  rw [Array.toList_extract, Array.toList_append, Array.toList_append, List.extract_eq_take_drop, List.drop_append_of_le_length (by first | (simp; done) | (simp; omega)), List.drop_append_of_le_length (by first | (simp; done) | (simp; omega)), List.drop_eq_nil_of_le (by first | (simp; done) | (simp; omega)), List.nil_append, List.take_append_of_le_length (by first | (simp; done) | (simp; omega))]
  rw [List.take_of_length_le (by first | (simp; done) | (simp; omega))]
end Go.Proofs.Ytbncpfkoeahhpaa
