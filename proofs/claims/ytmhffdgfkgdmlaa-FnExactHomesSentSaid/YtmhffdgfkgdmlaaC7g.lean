/-
  Tracks: the model's trState.
-/
import Derived.Test.YtmhffdgfkgdmlaaC7f
namespace Go.Proofs.Ytmhffdgfkgdmlaa
open Go.RowKit

theorem okSq_allD {S : Bool} {P : List (Int × Int)} (h : ∀ j < P.length, (P.getD j (0, 0)).1 = (P.getD 0 (0, 0)).1 ∨ S = true) : okSq S P = true := by
  refine okSq_all fun i hi => ?_
  have h1 := h i hi
  have h0 : P.getD 0 (0, 0) = P.headD (0, 0) := by
    match P with
    | [] => rfl
    | a :: t => rfl
  rw [h0, List.getD_eq_getElem?_getD, List.getElem?_eq_getElem hi] at h1
  exact h1
theorem okSq_headD {S : Bool} {P : List (Int × Int)} {j : Nat} (hj : j < P.length) (hS : S = false) (h : ¬ (P.getD j (0, 0)).1 = (P.getD 0 (0, 0)).1) : okSq S P = false := by
  refine okSq_head hj hS ?_
  have h0 : P.getD 0 (0, 0) = P.headD (0, 0) := by
    match P with
    | [] => rfl
    | a :: t => rfl
  rw [h0, List.getD_eq_getElem?_getD, List.getElem?_eq_getElem hj] at h
  exact h

end Go.Proofs.Ytmhffdgfkgdmlaa
