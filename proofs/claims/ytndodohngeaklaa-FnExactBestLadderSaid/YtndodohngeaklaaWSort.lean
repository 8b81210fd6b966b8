/-
  A row of jumps sorted by slices.SortFunc: the world behind it. Over any program.
-/
import Derived.Test.YtndodohngeaklaaWRow
import Derived.Test.YtndodohngeaklaaM12
import Derived.Shelf.SlSortCmp.WholeK
namespace Go.Proofs.Ytndodohngeaklaa
open Go.RowKit

def encJ (x : Int × Int) : List Value := [.int .i64 x.1, .int .i64 x.2]
def cfJ (x y : Int × Int) : Int := Lib.compareInt x.1 y.1
theorem ltJ (x y : Int × Int) : ltOf cfJ x y = decide (x.1 < y.1) := by
  unfold ltOf cfJ Lib.compareInt
  by_cases h1 : x.1 < y.1
  · simp [h1]
  · by_cases h2 : y.1 < x.1 <;> simp [h1, h2]
theorem swoJ : Sort.SWO (ltOf cfJ) where
  irrefl x := by rw [ltJ]; simp
  trans x y z h1 h2 := by rw [ltJ] at *; simp at *; omega
  ntrans x y z h1 h2 := by rw [ltJ] at *; simp at *; omega

theorem flat_even (d : Array (Int × Int)) (k : Nat) (h : k < d.size) : (Sort.flatK encJ 2 d)[k * 2]! = .int .i64 d[k]!.1 := by
  rw [Sort.get_flatK _ _ _ _ (by omega), show k * 2 / 2 = k by omega, show k * 2 % 2 = 0 by omega]; rfl
theorem flat_odd (d : Array (Int × Int)) (k : Nat) (h : k < d.size) : (Sort.flatK encJ 2 d)[k * 2 + 1]! = .int .i64 d[k]!.2 := by
  rw [Sort.get_flatK _ _ _ _ (by omega), show (k * 2 + 1) / 2 = k by omega, show (k * 2 + 1) % 2 = 1 by omega]; rfl
theorem toArray_get (L : List (Int × Int)) (k : Nat) (h : k < L.length) : L.toArray[k]! = L.getD k (0, 0) := by
  rw [getElem!_pos L.toArray k (by simpa using h)]
  simp [List.getD_eq_getElem?_getD, List.getElem?_eq_getElem h]
theorem toList_get (d : Array (Int × Int)) (k : Nat) (h : k < d.size) : d.toList.getD k (0, 0) = d[k]! := by
  rw [getElem!_pos d k h]
  simp [List.getD_eq_getElem?_getD, h]
theorem row_holds {w : World} {g : Nat} {t : TypeId} {L : List (Int × Int)} (h : RowJ w g t L.length (fun k => L.getD k (0, 0))) : Sort.HoldsK encJ 2 w g 0 L.toArray := by
  intro j hj
  rw [Sort.size_flatK] at hj
  refine ⟨?_, h.free _⟩
  have hk : j / 2 < L.length := by simp at hj; omega
  have e : j = j / 2 * 2 ∨ j = j / 2 * 2 + 1 := by omega
  rw [Nat.zero_add]
  rcases e with e | e
  · rw [e, flat_even _ _ (by simpa using hk), toArray_get _ _ hk]; exact h.cell1 hk
  · rw [e, flat_odd _ _ (by simpa using hk), toArray_get _ _ hk]; exact h.cell2 hk
theorem sorted_row {w : World} {g : Nat} {t : TypeId} {m : Nat} {F : Nat → Int × Int} (h : RowJ w g t m F) (d : Array (Int × Int)) (hs : d.size = m) (n : Nat) (os : Array Obj) :
    RowJ (sortWorldK encJ 2 w g 0 n d os) g t m (fun k => d.toList.getD k (0, 0)) := by
  have hg := h.lt
  obtain ⟨cs, hh, hcs, _⟩ := h
  refine ⟨Sort.putCells id 0 (Sort.flatK encJ 2 d) cs, ?_, by simp [Sort.putCells]; omega, fun k hk => ?_⟩
  · show (_ ++ os)[g]? = _
    rw [Array.getElem?_append_left (by simp [Sort.putRowK, Sort.putRow, Sort.mapBlock, Sort.ahead]; exact hg)]
    simp only [Sort.putRowK, Sort.putRow, Sort.mapBlock, Sort.ahead, Array.getElem?_modify, if_true, hh, Option.map_some, Sort.onCells]
  · have h1 := flat_even d k (by omega)
    have h2 := flat_odd d k (by omega)
    have t1 : k * 2 < cs.size := by omega
    have t2 : k * 2 + 1 < cs.size := by omega
    simp only [toList_get d k (by omega)]
    constructor
    · rw [Array.getElem?_eq_getElem (by simpa [Sort.putCells] using t1)]
      simp only [Sort.putCells, Array.getElem_mapIdx, Sort.size_flatK, Nat.sub_zero, id_eq]
      rw [if_pos (by omega), h1]
    · rw [Array.getElem?_eq_getElem (by simpa [Sort.putCells] using t2)]
      simp only [Sort.putCells, Array.getElem_mapIdx, Sort.size_flatK, Nat.sub_zero, id_eq]
      rw [if_pos (by omega), h2]
theorem sorted_grown {w : World} {g : Nat} (d : Array (Int × Int)) (n : Nat) (os : Array Obj) : w.grownBy (sortWorldK encJ 2 w g 0 n d os) (some g) := by
  refine ⟨rfl, rfl, rfl, ?_, fun k hk hne => ?_⟩
  · show w.heap.size ≤ (_ ++ os).size
    simp [Sort.putRowK, Sort.putRow, Sort.mapBlock, Sort.ahead]
  · show (_ ++ os)[k]? = _
    rw [Array.getElem?_append_left (by simp [Sort.putRowK, Sort.putRow, Sort.mapBlock, Sort.ahead]; exact hk)]
    have hne' : ¬ g = k := fun e => hne (by rw [e])
    simp [Sort.putRowK, Sort.putRow, Sort.mapBlock, Sort.ahead, Array.getElem?_modify, hne']
/-- What the sort's contract says of the row, as lists. -/
theorem sorted_list {L : List (Int × Int)} {d : Array (Int × Int)} (hp : Sort.PermIn 0 L.toArray.size L.toArray d) (hs : Sort.SortedIn (ltOf cfJ) 0 L.toArray.size d) : d.size = L.length ∧ d.toList.Perm L ∧ d.toList.Pairwise Up := by
  obtain ⟨h1, _, h3⟩ := hp
  have hz : d.size = L.length := by simpa using h1
  refine ⟨hz, ?_, ?_⟩
  · have e1 : (d.extract 0 L.toArray.size).toList = d.toList := by
      rw [List.size_toArray, ← hz]; simp
    have e2 : (L.toArray.extract 0 L.toArray.size).toList = L := by simp
    rw [e1, e2] at h3
    exact h3
  · rw [List.pairwise_iff_getElem]
    intro i j hi hj hij
    have := hs i j (Nat.zero_le _) hij (by simp at hj ⊢; omega)
    rw [ltJ] at this
    simp only [Array.length_toList] at hi hj
    rw [getElem!_pos d j hj, getElem!_pos d i hi] at this
    simp only [Array.getElem_toList, Up]
    simpa using this
end Go.Proofs.Ytndodohngeaklaa
