/-
  Texts: the decimal numerals of the model (l1Num).
-/
import Derived.Test.YtbblmbibddjedacDoorChecked
import Derived.Test.YtbblmbibddjedacDoorW
import Derived.Lib.ItoaNum
import Derived.Laws.IdiomStrings
import Derived.Laws.Concat
import Derived.BigQuiet
import Derived.Deep.QuietTactic
import Derived.Deep.RegionHeld3
namespace Go.Proofs.YtbblmbibddjedacDoor
open Go.RowKit

/-- A number's digits. -/
def numL (n : Int) : List UInt8 := Lib.decDigits n.toNat
/-- A number's text. -/
def numB (n : Int) : ByteArray := ⟨(numL n).toArray⟩

theorem numB_size (n : Int) : (numB n).size = (numL n).length := by show (numL n).toArray.size = _; simp
theorem decDigits_len : ∀ (k u : Nat), u < 10 ^ (k + 1) → (Lib.decDigits u).length ≤ k + 1
  | 0, u, h => by rw [Lib.decDigits, dif_pos (by simpa using h)]; simp
  | k + 1, u, h => by
    rw [Lib.decDigits]
    split
    · simp
    · have := decDigits_len k (u / 10) (by rw [Nat.pow_succ] at h; omega)
      simp
      omega
theorem numL_len (n : Int) (h : n ≤ 999) : (numL n).length ≤ 3 := decDigits_len 2 n.toNat (by simp; omega)
theorem numL_small (n : Int) (h0 : 0 ≤ n) (h : n < 10) : numL n = [UInt8.ofNat (48 + n.toNat)] := by
  unfold numL
  rw [Lib.decDigits, dif_pos (by omega)]
theorem numL_big (n : Int) (h : 10 ≤ n) : numL n = numL (n / 10) ++ [UInt8.ofNat (48 + (n % 10).toNat)] := by
  unfold numL
  rw [Lib.decDigits, dif_neg (by omega), show (n / 10).toNat = n.toNat / 10 by omega, show (n % 10).toNat = n.toNat % 10 by omega]
theorem add_run {P : Program} (x y z : ByteArray) (hz : z = x ++ y) (h : x.size + y.size ≤ 9223372036854775807) (W : World) : (Op.stringOp .add x y).run P W = .ok (.string z) W := by
  rw [hz]
  exact run_string_add_sum W x y h

/-- The texts of a board's head, laid one behind the other. -/
theorem head_adds (P : Program) (a b c : Int) (ha : a ≤ 999) (hb : b ≤ 999) (hc : c ≤ 999) : ∃ s1 s2 s3 s4 : ByteArray,
    (∀ W, (Op.stringOp .add (numB a) ⟨#[100]⟩).run P W = .ok (.string s1) W) ∧ (∀ W, (Op.stringOp .add s1 (numB b)).run P W = .ok (.string s2) W) ∧
    (∀ W, (Op.stringOp .add s2 ⟨#[47]⟩).run P W = .ok (.string s3) W) ∧ (∀ W, (Op.stringOp .add s3 (numB c)).run P W = .ok (.string s4) W) ∧
    s4 = ⟨(numL a ++ 100 :: (numL b ++ 47 :: numL c)).toArray⟩ := by
  have la := numL_len a ha
  have lb := numL_len b hb
  have lc := numL_len c hc
  have e : ∀ l : List UInt8, (⟨l.toArray⟩ : ByteArray).size = l.length := fun l => by show l.toArray.size = _; simp
  refine ⟨⟨(numL a ++ [100]).toArray⟩, ⟨(numL a ++ 100 :: numL b).toArray⟩, ⟨(numL a ++ 100 :: (numL b ++ [47])).toArray⟩, _,
    add_run _ ⟨[100].toArray⟩ _ (by apply ByteArray.ext; simp [numB]) (by rw [numB_size, e]; simp; omega),
    add_run _ _ _ (by apply ByteArray.ext; simp [numB]) (by rw [numB_size, e]; simp; omega),
    add_run _ ⟨[47].toArray⟩ _ (by apply ByteArray.ext; simp) (by rw [e, e]; simp; omega),
    add_run _ _ _ (by apply ByteArray.ext; simp [numB]) (by rw [numB_size, e]; simp; omega), rfl⟩

/-- The texts of jumps. -/
def jumpsL (js : List (Int × Int)) : List UInt8 := js.flatMap fun j => 59 :: (numL j.1 ++ 62 :: numL j.2)
/-- A board's text, as far as jumps are told. -/
def txtB (s f o : Int) (js : List (Int × Int)) : ByteArray := ⟨((numL s ++ 100 :: (numL f ++ 47 :: numL o)) ++ jumpsL js).toArray⟩
theorem jumpsL_len : ∀ (js : List (Int × Int)), (∀ j ∈ js, j.1 ≤ 999 ∧ j.2 ≤ 999) → (jumpsL js).length ≤ 8 * js.length
  | [], _ => by simp [jumpsL]
  | j :: js, h => by
    have h1 := h j (by simp)
    have ih := jumpsL_len js fun x hx => h x (by simp [hx])
    have l1 := numL_len j.1 h1.1
    have l2 := numL_len j.2 h1.2
    simp only [jumpsL, List.flatMap_cons, List.length_append, List.length_cons] at ih ⊢
    omega
theorem txtB_size (s f o : Int) (js : List (Int × Int)) (hs : s ≤ 999) (hf : f ≤ 999) (ho : o ≤ 999) (h : ∀ j ∈ js, j.1 ≤ 999 ∧ j.2 ≤ 999) : (txtB s f o js).size ≤ 11 + 8 * js.length := by
  have := jumpsL_len js h
  have := numL_len s hs
  have := numL_len f hf
  have := numL_len o ho
  show ((numL s ++ 100 :: (numL f ++ 47 :: numL o)) ++ jumpsL js).toArray.size ≤ _
  simp
  omega
theorem jump_adds (P : Program) (s f o : Int) (js : List (Int × Int)) (hs : s ≤ 999) (hf : f ≤ 999) (ho : o ≤ 999) (h : ∀ j ∈ js, j.1 ≤ 999 ∧ j.2 ≤ 999) (hl : js.length ≤ 1048576) (k : Nat) (hk : k < js.length) : ∃ s1 s2 s3 : ByteArray,
    (∀ W, (Op.stringOp .add ⟨#[59]⟩ (numB js[k].1)).run P W = .ok (.string s1) W) ∧ (∀ W, (Op.stringOp .add s1 ⟨#[62]⟩).run P W = .ok (.string s2) W) ∧
    (∀ W, (Op.stringOp .add s2 (numB js[k].2)).run P W = .ok (.string s3) W) ∧ (∀ W, (Op.stringOp .add (txtB s f o (js.take k)) s3).run P W = .ok (.string (txtB s f o (js.take (k + 1)))) W) := by
  have hm := h js[k] (List.getElem_mem hk)
  have la := numL_len _ hm.1
  have lb := numL_len _ hm.2
  have lt := txtB_size s f o (js.take k) hs hf ho fun j hj => h j (List.mem_of_mem_take hj)
  have e : ∀ l : List UInt8, (⟨l.toArray⟩ : ByteArray).size = l.length := fun l => by show l.toArray.size = _; simp
  have ht : js.take (k + 1) = js.take k ++ [js[k]] := by rw [List.take_add_one, List.getElem?_eq_getElem hk]; rfl
  refine ⟨⟨(59 :: numL js[k].1).toArray⟩, ⟨(59 :: (numL js[k].1 ++ [62])).toArray⟩, ⟨(59 :: (numL js[k].1 ++ 62 :: numL js[k].2)).toArray⟩,
    add_run ⟨[59].toArray⟩ _ _ (by apply ByteArray.ext; simp [numB]) (by rw [numB_size, e]; simp; omega),
    add_run _ ⟨[62].toArray⟩ _ (by apply ByteArray.ext; simp) (by rw [e, e]; simp; omega),
    add_run _ _ _ (by apply ByteArray.ext; simp [numB]) (by rw [numB_size, e]; simp; omega),
    add_run _ _ _ (by apply ByteArray.ext; simp only [txtB, jumpsL, ht, List.flatMap_append]; simp) (by rw [show (⟨(59 :: (numL js[k].1 ++ 62 :: numL js[k].2)).toArray⟩ : ByteArray).size = (numL js[k].1).length + (numL js[k].2).length + 2 by rw [e]; simp; omega]; have := List.length_take_le k js; omega)⟩
theorem txtB_nil (s f o : Int) : txtB s f o [] = ⟨(numL s ++ 100 :: (numL f ++ 47 :: numL o)).toArray⟩ := by simp [txtB, jumpsL]
end Go.Proofs.YtbblmbibddjedacDoor
