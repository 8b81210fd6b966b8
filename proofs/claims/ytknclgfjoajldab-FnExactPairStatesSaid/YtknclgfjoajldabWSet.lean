/-
  Sets of two squares of up to 6 each: 49 booleans. Over any program.
-/
import Derived.Test.YtknclgfjoajldabWB
import Derived.Test.YtknclgfjoajldabM31
namespace Go.Proofs.Ytknclgfjoajldab
open Go.RowKit

def setC (S : Nat → Nat → Bool) : Array Value := ((List.range 49).map (fun i => Value.bool (S (i / 7) (i % 7)))).toArray
def rowS (S : Nat → Nat → Bool) (x : Nat) : Array Value := ((List.range 7).map (fun y => Value.bool (S x y))).toArray
def updS (S : Nat → Nat → Bool) (a b : Nat) (v : Bool) : Nat → Nat → Bool := fun x y => if x = a ∧ y = b then v else S x y
section
variable {S T : Nat → Nat → Bool}
theorem setC_size (S : Nat → Nat → Bool) : (setC S).size = 49 := by simp [setC]
theorem setC_idx (S : Nat → Nat → Bool) {i : Nat} (hi : i < 49) : (setC S)[i]? = some (.bool (S (i / 7) (i % 7))) := by simp [setC, hi]
theorem setC_at (S : Nat → Nat → Bool) {x y : Nat} (hx : x < 7) (hy : y < 7) : (setC S)[x * 7 + y]? = some (.bool (S x y)) := by
  rw [setC_idx S (by omega), show (x * 7 + y) / 7 = x by omega, show (x * 7 + y) % 7 = y by omega]
theorem setC_one (S : Nat → Nat → Bool) : ∀ u ∈ (setC S).toList, u.oneCell' = true := by
  intro u hu
  simp only [setC, List.mem_map] at hu
  obtain ⟨i, _, rfl⟩ := hu
  rfl
theorem setC_congr (h : ∀ x < 7, ∀ y < 7, S x y = T x y) : setC S = setC T := by
  apply Array.ext_getElem?
  intro i
  by_cases hi : i < 49
  · rw [setC_idx S hi, setC_idx T hi, h _ (by omega) _ (by omega)]
  · rw [Array.getElem?_eq_none (by rw [setC_size]; omega), Array.getElem?_eq_none (by rw [setC_size]; omega)]
theorem setC_set (S : Nat → Nat → Bool) {x y : Nat} (hx : x < 7) (hy : y < 7) (v : Bool) : (setC S).setIfInBounds (x * 7 + y) (.bool v) = setC (updS S x y v) := by
  apply Array.ext_getElem?
  intro i
  rw [Array.getElem?_setIfInBounds, setC_size]
  by_cases hi : x * 7 + y = i
  · subst hi
    rw [if_pos rfl, if_pos (by omega), setC_at _ hx hy]
    simp [updS]
  · rw [if_neg hi]
    by_cases hj : i < 49
    · rw [setC_idx _ hj, setC_idx _ hj]
      have : ¬ (i / 7 = x ∧ i % 7 = y) := by omega
      simp [updS, this]
    · rw [Array.getElem?_eq_none (by rw [setC_size]; omega), Array.getElem?_eq_none (by rw [setC_size]; omega)]
end
/-- Block g is a set. -/
def SA (w : World) (g : Nat) (t : TypeId) (S : Nat → Nat → Bool) : Prop := w.heap[g]? = some (.cells (setC S) t (0, 0))
section
variable {w w' : World} {g B : Nat} {t : TypeId} {S T : Nat → Nat → Bool}
theorem SA.lt (h : SA w g t S) : g < w.heap.size := heap_lt h
theorem SA.at_ (h : SA w g t S) {x y : Nat} (hx : x < 7) (hy : y < 7) : w.cell? ⟨g, x * 7 + y, none⟩ = some (.bool (S x y)) := (cell_of_row _ _ _ _ _ _ h).trans (setC_at S hx hy)
theorem SA.free (h : SA w g t S) (i : Nat) : w.frozen? ⟨g, i, none⟩ = false := frozen_row h
theorem SA.below (h : SA w g t S) (hb : Below B w w') (hg : g < B) : SA w' g t S := (hb.block g hg).trans h
theorem SA.grown {row : Option Nat} (h : SA w g t S) (hg : w.grownBy w' row) (hne : some g ≠ row) : SA w' g t S := (hg.block g h.lt hne).trans h
theorem SA.alloc (h : SA w g t S) (o : Obj) : SA (w.alloc o) g t S := (Below.heap_alloc w o g h.lt).trans h
theorem SA.set (h : SA w g t S) {x y : Nat} (hx : x < 7) (hy : y < 7) (v : Bool) : SA (w.setCell ⟨g, x * 7 + y, none⟩ (.bool v)) g t (updS S x y v) := by
  have := heap_set w g (x * 7 + y) _ _ (.bool v) h
  rw [setC_set S hx hy] at this
  exact this
theorem SA.congr (h : SA w g t S) (he : ∀ x < 7, ∀ y < 7, S x y = T x y) : SA w g t T := by
  have h' := h
  unfold SA at h' ⊢
  rw [h', setC_congr he]
end
end Go.Proofs.Ytknclgfjoajldab
