/-
  Arrays of eight integers: the faces of dice. Over any program.
-/
import Derived.Test.YtblpfjjnlfjloabWB
namespace Go.Proofs.Ytblpfjjnlfjloab
open Go.RowKit

def thC (T : Nat → Nat) : Array Value := ((List.range 8).map (fun i => Value.int .i64 (T i))).toArray
def updT (T : Nat → Nat) (a v : Nat) : Nat → Nat := fun i => if i = a then v else T i
section
variable {S T : Nat → Nat}
theorem thC_size (T : Nat → Nat) : (thC T).size = 8 := by simp [thC]
theorem thC_at (T : Nat → Nat) {i : Nat} (hi : i < 8) : (thC T)[i]? = some (.int .i64 (T i)) := by simp [thC, hi]
theorem thC_one (T : Nat → Nat) : ∀ u ∈ (thC T).toList, u.oneCell' = true := by
  intro u hu
  simp only [thC, List.mem_map] at hu
  obtain ⟨i, _, rfl⟩ := hu
  rfl
theorem thC_congr (h : ∀ i < 8, S i = T i) : thC S = thC T := by
  apply Array.ext_getElem?
  intro i
  by_cases hi : i < 8
  · rw [thC_at S hi, thC_at T hi, h i hi]
  · rw [Array.getElem?_eq_none (by rw [thC_size]; omega), Array.getElem?_eq_none (by rw [thC_size]; omega)]
theorem thC_set (T : Nat → Nat) {a : Nat} (ha : a < 8) (v : Nat) : (thC T).setIfInBounds a (.int .i64 v) = thC (updT T a v) := by
  apply Array.ext_getElem?
  intro i
  rw [Array.getElem?_setIfInBounds, thC_size]
  by_cases hi : a = i
  · subst hi
    rw [if_pos rfl, if_pos ha, thC_at _ ha]
    simp [updT]
  · rw [if_neg hi]
    by_cases hj : i < 8
    · rw [thC_at _ hj, thC_at _ hj]
      have : ¬ i = a := fun e => hi e.symm
      simp [updT, this]
    · rw [Array.getElem?_eq_none (by rw [thC_size]; omega), Array.getElem?_eq_none (by rw [thC_size]; omega)]
end
/-- Block g is a throw. -/
def TA (w : World) (g : Nat) (t : TypeId) (T : Nat → Nat) : Prop := w.heap[g]? = some (.cells (thC T) t (0, 0))
section
variable {w w' : World} {g B : Nat} {t : TypeId} {S T : Nat → Nat}
theorem TA.lt (h : TA w g t T) : g < w.heap.size := heap_lt h
theorem TA.at_ (h : TA w g t T) {i : Nat} (hi : i < 8) : w.cell? ⟨g, i, none⟩ = some (.int .i64 (T i)) := (cell_of_row _ _ _ _ _ _ h).trans (thC_at T hi)
theorem TA.free (h : TA w g t T) (i : Nat) : w.frozen? ⟨g, i, none⟩ = false := frozen_row h
theorem TA.keep (h : TA w g t T) (hb : w'.heap[g]? = w.heap[g]?) : TA w' g t T := hb.trans h
theorem TA.below (h : TA w g t T) (hb : Below B w w') (hg : g < B) : TA w' g t T := (hb.block g hg).trans h
theorem TA.grown {row : Option Nat} (h : TA w g t T) (hg : w.grownBy w' row) (hne : some g ≠ row) : TA w' g t T := (hg.block g h.lt hne).trans h
theorem TA.alloc (h : TA w g t T) (o : Obj) : TA (w.alloc o) g t T := (Below.heap_alloc w o g h.lt).trans h
theorem TA.drewN (h : TA w g t T) (n : Nat) : TA (w.drewN n) g t T := h
theorem TA.far (h : TA w g t T) {p : Addr} (hp : g ≠ p.block) (u : Value) : TA (w.setCell p u) g t T := h.keep (Below.heap_setCell w p u g hp)
theorem TA.set (h : TA w g t T) {a : Nat} (ha : a < 8) (v : Nat) : TA (w.setCell ⟨g, a, none⟩ (.int .i64 v)) g t (updT T a v) := by
  have := heap_set w g a _ _ (.int .i64 v) h
  rw [thC_set T ha] at this
  exact this
theorem TA.congr (h : TA w g t T) (he : ∀ i < 8, S i = T i) : TA w g t S := by
  unfold TA at h ⊢
  rw [h, thC_congr he]
end
theorem zeroThr : (#[.int .i64 0, .int .i64 0, .int .i64 0, .int .i64 0, .int .i64 0, .int .i64 0, .int .i64 0, .int .i64 0] : Array Value) = thC (fun _ => 0) := by kernel_rfl
end Go.Proofs.Ytblpfjjnlfjloab
