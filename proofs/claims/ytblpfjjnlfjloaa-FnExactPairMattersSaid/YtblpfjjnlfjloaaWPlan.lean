/-
  The cells of a plan: a course, a rule, and a fraction for each two squares. Over any program.
-/
import Derived.Test.YtblpfjjnlfjloaaWBig
import Derived.Test.YtblpfjjnlfjloaaM1
import Derived.Test.YtblpfjjnlfjloaaM34
namespace Go.Proofs.Ytblpfjjnlfjloaa
open Go.RowKit

def meanV (T : Tab) (i : Nat) : Value := if i % 2 = 0 then .int .i64 ((T (i / 14) (i / 2 % 7)).1 : Nat) else .int .i64 ((T (i / 14) (i / 2 % 7)).2 : Nat)
def meanC (T : Tab) : Array Value := ((List.range 98).map (meanV T)).toArray
def planC (s f : Nat) (R : Value) (T : Tab) : Array Value := crsCells s f 0 (fun i => jumpOf [] i) ++ (#[R] ++ meanC T)
theorem meanC_size (T : Tab) : (meanC T).size = 98 := by simp [meanC]
theorem meanC_idx (T : Tab) {i : Nat} (hi : i < 98) : (meanC T)[i]? = some (meanV T i) := by simp [meanC, hi]
theorem planC_size (s f : Nat) (R : Value) (T : Tab) : (planC s f R T).size = 203 := by simp [planC, crs_size, meanC_size]
theorem planC_lt (s f : Nat) (R : Value) (T : Tab) {i : Nat} (hi : i < 104) : (planC s f R T)[i]? = (crsCells s f 0 (fun i => jumpOf [] i))[i]? := by
  unfold planC
  rw [Array.getElem?_append_left (by rw [crs_size]; exact hi)]
theorem planC_104 (s f : Nat) (R : Value) (T : Tab) : (planC s f R T)[104]? = some R := by
  unfold planC
  rw [Array.getElem?_append_right (by rw [crs_size]; omega), crs_size, Array.getElem?_append_left (by simp)]
  rfl
theorem planC_ge (s f : Nat) (R : Value) (T : Tab) {i : Nat} (hi : i < 98) : (planC s f R T)[105 + i]? = some (meanV T i) := by
  unfold planC
  rw [Array.getElem?_append_right (by rw [crs_size]; omega), crs_size, Array.getElem?_append_right (by simp; omega)]
  have e : 105 + i - 104 - (#[R] : Array Value).size = i := by simp; omega
  rw [e, meanC_idx T hi]
theorem planC_1 (s f : Nat) (R : Value) (T : Tab) {x y : Nat} (hx : x < 7) (hy : y < 7) : (planC s f R T)[105 + x * 14 + y * 2]? = some (.int .i64 ((T x y).1 : Nat)) := by
  rw [Nat.add_assoc, planC_ge s f R T (by omega)]
  unfold meanV
  rw [if_pos (by omega), show (x * 14 + y * 2) / 14 = x by omega, show (x * 14 + y * 2) / 2 % 7 = y by omega]
theorem planC_2 (s f : Nat) (R : Value) (T : Tab) {x y : Nat} (hx : x < 7) (hy : y < 7) : (planC s f R T)[105 + x * 14 + y * 2 + 1]? = some (.int .i64 ((T x y).2 : Nat)) := by
  rw [show 105 + x * 14 + y * 2 + 1 = 105 + (x * 14 + y * 2 + 1) by omega, planC_ge s f R T (by omega)]
  unfold meanV
  rw [if_neg (by omega), show (x * 14 + y * 2 + 1) / 14 = x by omega, show (x * 14 + y * 2 + 1) / 2 % 7 = y by omega]
theorem planC_one (s f : Nat) (R : Value) (T : Tab) (hR : R.oneCell' = true) : ∀ u ∈ (planC s f R T).toList, u.oneCell' = true := by
  intro u hu
  simp only [planC, Array.toList_append, List.mem_append] at hu
  rcases hu with hu | hu | hu
  · exact crs_one _ _ _ _ u hu
  · simp at hu; subst hu; exact hR
  · simp only [meanC, List.mem_map] at hu
    obtain ⟨i, _, rfl⟩ := hu
    unfold meanV
    split <;> rfl
theorem planC_set (s f : Nat) (R : Value) (T : Tab) {x y : Nat} (hx : x < 7) (hy : y < 7) (p : Fr) : ((planC s f R T).setIfInBounds (105 + x * 14 + y * 2) (.int .i64 (p.1 : Nat))).setIfInBounds (105 + x * 14 + y * 2 + 1) (.int .i64 (p.2 : Nat)) = planC s f R (setT T x y p) := by
  apply Array.ext_getElem?
  intro i
  rw [Array.getElem?_setIfInBounds, Array.getElem?_setIfInBounds, Array.size_setIfInBounds, planC_size]
  by_cases h2 : 105 + x * 14 + y * 2 + 1 = i
  · subst h2
    rw [if_pos rfl, if_pos (by omega), planC_2 _ _ _ _ hx hy]
    simp [setT]
  · rw [if_neg h2]
    by_cases h1 : 105 + x * 14 + y * 2 = i
    · subst h1
      rw [if_pos rfl, if_pos (by omega), planC_1 _ _ _ _ hx hy]
      simp [setT]
    · rw [if_neg h1]
      by_cases hi : i < 104
      · rw [planC_lt _ _ _ _ hi, planC_lt _ _ _ _ hi]
      · by_cases hi2 : i = 104
        · subst hi2; rw [planC_104, planC_104]
        · by_cases hi3 : i < 203
          · obtain ⟨j, rfl⟩ : ∃ j, i = 105 + j := ⟨i - 105, by omega⟩
            rw [planC_ge _ _ _ _ (by omega), planC_ge _ _ _ _ (by omega)]
            have hn : ¬ (j / 14 = x ∧ j / 2 % 7 = y) := by omega
            unfold meanV setT
            simp only [if_neg hn]
          · rw [Array.getElem?_eq_none (by rw [planC_size]; omega), Array.getElem?_eq_none (by rw [planC_size]; omega)]
/-- Block g is a plan. -/
def PA (w : World) (g : Nat) (t : TypeId) (s f : Nat) (R : Value) (T : Tab) : Prop := w.heap[g]? = some (.cells (planC s f R T) t (0, 0))
section
variable {w w' : World} {g B : Nat} {t : TypeId} {s f : Nat} {R : Value} {T : Tab}
theorem PA.lt (h : PA w g t s f R T) : g < w.heap.size := heap_lt h
theorem PA.below (h : PA w g t s f R T) (hb : Below B w w') (hg : g < B) : PA w' g t s f R T := (hb.block g hg).trans h
theorem PA.alloc (h : PA w g t s f R T) (o : Obj) : PA (w.alloc o) g t s f R T := (Below.heap_alloc w o g h.lt).trans h
theorem PA.grown {row : Option Nat} (h : PA w g t s f R T) (hg : w.grownBy w' row) (hne : some g ≠ row) : PA w' g t s f R T := (hg.block g h.lt hne).trans h
theorem PA.free (h : PA w g t s f R T) (i : Nat) : w.frozen? ⟨g, i, none⟩ = false := frozen_row h
theorem PA.sq (h : PA w g t s f R T) : w.cell? ⟨g, 0, none⟩ = some (.int .i64 s) := (cell_of_row _ _ _ _ _ _ h).trans ((planC_lt _ _ _ _ (by omega)).trans (crs_0 _ _ _ _))
theorem PA.fa (h : PA w g t s f R T) : w.cell? ⟨g, 1, none⟩ = some (.int .i64 f) := (cell_of_row _ _ _ _ _ _ h).trans ((planC_lt _ _ _ _ (by omega)).trans (crs_1 _ _ _ _))
theorem PA.rule (h : PA w g t s f R T) : w.cell? ⟨g, 104, none⟩ = some R := (cell_of_row _ _ _ _ _ _ h).trans (planC_104 _ _ _ _)
theorem PA.at1 (h : PA w g t s f R T) {x y : Nat} (hx : x < 7) (hy : y < 7) : w.cell? ⟨g, 105 + x * 14 + y * 2, none⟩ = some (.int .i64 ((T x y).1 : Nat)) := (cell_of_row _ _ _ _ _ _ h).trans (planC_1 _ _ _ _ hx hy)
theorem PA.at2 (h : PA w g t s f R T) {x y : Nat} (hx : x < 7) (hy : y < 7) : w.cell? ⟨g, 105 + x * 14 + y * 2 + 1, none⟩ = some (.int .i64 ((T x y).2 : Nat)) := (cell_of_row _ _ _ _ _ _ h).trans (planC_2 _ _ _ _ hx hy)
theorem PA.set (h : PA w g t s f R T) {x y : Nat} (hx : x < 7) (hy : y < 7) (p : Fr) : PA ((w.setCell ⟨g, 105 + x * 14 + y * 2, none⟩ (.int .i64 (p.1 : Nat))).setCell ⟨g, 105 + x * 14 + y * 2 + 1, none⟩ (.int .i64 (p.2 : Nat))) g t s f R (setT T x y p) := by
  have h1 := heap_set _ g (105 + x * 14 + y * 2 + 1) _ t (.int .i64 (p.2 : Nat)) (heap_set w g (105 + x * 14 + y * 2) _ t (.int .i64 (p.1 : Nat)) h)
  rw [planC_set s f R T hx hy p] at h1
  exact h1
end
end Go.Proofs.Ytblpfjjnlfjloaa
