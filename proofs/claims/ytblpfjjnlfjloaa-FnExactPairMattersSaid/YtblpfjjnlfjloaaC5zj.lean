/-
  Pairs: the program's comparison tells rightly at all means that come. Written by program (wip/tools/gen_besttab.py).
-/
import Derived.Test.YtblpfjjnlfjloaaM54
import Derived.Test.YtblpfjjnlfjloaaC5zf
namespace Go.Proofs.Ytblpfjjnlfjloaa

def shB (T : Tab) (x y face : Nat) : Bool := match cmpP (T x (y + face)) (T (x + face) y) with
  | some c => decide (c < 0) == decide ((T x (y + face)).1 * (T (x + face) y).2 < (T (x + face) y).1 * (T x (y + face)).2)
  | none => false
def shRow (s f : Nat) (T : Tab) (x : Nat) : Bool := (List.range (s + 1)).all fun y => (List.range f).all fun k => if x + (k + 1) ≤ s ∧ y + (k + 1) ≤ s then shB T x y (k + 1) else true
def shAll (s f : Nat) (l : Bool) : Bool := (List.range (s + 1)).all fun x => shRow s f (rowsTab s (bestTab l s f)) x
theorem sh_true_1_1 : shAll 1 1 true = true := by decide +kernel
theorem sh_true_1_2 : shAll 1 2 true = true := by decide +kernel
theorem sh_true_1_3 : shAll 1 3 true = true := by decide +kernel
theorem sh_true_1_4 : shAll 1 4 true = true := by decide +kernel
theorem sh_true_2_1 : shAll 2 1 true = true := by decide +kernel
theorem sh_true_2_2 : shAll 2 2 true = true := by decide +kernel
theorem sh_true_2_3 : shAll 2 3 true = true := by decide +kernel
theorem sh_true_2_4 : shAll 2 4 true = true := by decide +kernel
theorem sh_true_3_1 : shAll 3 1 true = true := by decide +kernel
theorem sh_true_3_2 : shAll 3 2 true = true := by decide +kernel
theorem sh_true_3_3 : shAll 3 3 true = true := by decide +kernel
theorem sh_true_3_4 : shAll 3 4 true = true := by decide +kernel
theorem sh_true_4_1 : shAll 4 1 true = true := by decide +kernel
theorem sh_true_4_2 : shAll 4 2 true = true := by decide +kernel
theorem sh_true_4_3 : shAll 4 3 true = true := by decide +kernel
theorem sh_true_4_4 : shAll 4 4 true = true := by decide +kernel
theorem sh_true_5_1 : shAll 5 1 true = true := by decide +kernel
theorem sh_true_5_2 : shAll 5 2 true = true := by decide +kernel
theorem sh_true_5_3 : shAll 5 3 true = true := by decide +kernel
theorem sh_true_5_4 : shAll 5 4 true = true := by decide +kernel
theorem sh_true_6_1 : shAll 6 1 true = true := by decide +kernel
theorem sh_true_6_2 : shAll 6 2 true = true := by decide +kernel
theorem sh_true_6_3 : shAll 6 3 true = true := by decide +kernel
theorem sh_true_6_4 : shAll 6 4 true = true := by decide +kernel
theorem sh_false_1_1 : shAll 1 1 false = true := by decide +kernel
theorem sh_false_1_2 : shAll 1 2 false = true := by decide +kernel
theorem sh_false_1_3 : shAll 1 3 false = true := by decide +kernel
theorem sh_false_1_4 : shAll 1 4 false = true := by decide +kernel
theorem sh_false_2_1 : shAll 2 1 false = true := by decide +kernel
theorem sh_false_2_2 : shAll 2 2 false = true := by decide +kernel
theorem sh_false_2_3 : shAll 2 3 false = true := by decide +kernel
theorem sh_false_2_4 : shAll 2 4 false = true := by decide +kernel
theorem sh_false_3_1 : shAll 3 1 false = true := by decide +kernel
theorem sh_false_3_2 : shAll 3 2 false = true := by decide +kernel
theorem sh_false_3_3 : shAll 3 3 false = true := by decide +kernel
theorem sh_false_3_4 : shAll 3 4 false = true := by decide +kernel
theorem sh_false_4_1 : shAll 4 1 false = true := by decide +kernel
theorem sh_false_4_2 : shAll 4 2 false = true := by decide +kernel
theorem sh_false_4_3 : shAll 4 3 false = true := by decide +kernel
theorem sh_false_4_4 : shAll 4 4 false = true := by decide +kernel
theorem sh_false_5_1 : shAll 5 1 false = true := by decide +kernel
theorem sh_false_5_2 : shAll 5 2 false = true := by decide +kernel
theorem sh_false_5_3 : shAll 5 3 false = true := by decide +kernel
theorem sh_false_5_4 : shAll 5 4 false = true := by decide +kernel
theorem sh_false_6_1 : shAll 6 1 false = true := by decide +kernel
theorem sh_false_6_2 : shAll 6 2 false = true := by decide +kernel
theorem sh_false_6_3 : shAll 6 3 false = true := by decide +kernel
theorem sh_false_6_4 : shAll 6 4 false = true := by decide +kernel
theorem sh_all (l : Bool) (s f : Nat) (hs1 : 1 ≤ s) (hs : s ≤ 6) (hf1 : 1 ≤ f) (hf : f ≤ 4) : shAll s f l = true := by
  rcases (show s = 1 ∨ s = 2 ∨ s = 3 ∨ s = 4 ∨ s = 5 ∨ s = 6 by omega) with rfl | rfl | rfl | rfl | rfl | rfl <;> rcases (show f = 1 ∨ f = 2 ∨ f = 3 ∨ f = 4 by omega) with rfl | rfl | rfl | rfl <;> cases l
  · exact sh_false_1_1
  · exact sh_true_1_1
  · exact sh_false_1_2
  · exact sh_true_1_2
  · exact sh_false_1_3
  · exact sh_true_1_3
  · exact sh_false_1_4
  · exact sh_true_1_4
  · exact sh_false_2_1
  · exact sh_true_2_1
  · exact sh_false_2_2
  · exact sh_true_2_2
  · exact sh_false_2_3
  · exact sh_true_2_3
  · exact sh_false_2_4
  · exact sh_true_2_4
  · exact sh_false_3_1
  · exact sh_true_3_1
  · exact sh_false_3_2
  · exact sh_true_3_2
  · exact sh_false_3_3
  · exact sh_true_3_3
  · exact sh_false_3_4
  · exact sh_true_3_4
  · exact sh_false_4_1
  · exact sh_true_4_1
  · exact sh_false_4_2
  · exact sh_true_4_2
  · exact sh_false_4_3
  · exact sh_true_4_3
  · exact sh_false_4_4
  · exact sh_true_4_4
  · exact sh_false_5_1
  · exact sh_true_5_1
  · exact sh_false_5_2
  · exact sh_true_5_2
  · exact sh_false_5_3
  · exact sh_true_5_3
  · exact sh_false_5_4
  · exact sh_true_5_4
  · exact sh_false_6_1
  · exact sh_true_6_1
  · exact sh_false_6_2
  · exact sh_true_6_2
  · exact sh_false_6_3
  · exact sh_true_6_3
  · exact sh_false_6_4
  · exact sh_true_6_4
theorem shB_at {s f : Nat} {l : Bool} (h : shAll s f l = true) {x y face : Nat} (h1 : 1 ≤ face) (h2 : face ≤ f) (hx : x + face ≤ s) (hy : y + face ≤ s) : shB (rowsTab s (bestTab l s f)) x y face = true := by
  have a1 := List.all_eq_true.1 h x (by simp; omega)
  have a2 := List.all_eq_true.1 a1 y (by simp; omega)
  have a3 := List.all_eq_true.1 a2 (face - 1) (by simp; omega)
  rw [show face - 1 + 1 = face by omega, if_pos ⟨hx, hy⟩] at a3
  exact a3
end Go.Proofs.Ytblpfjjnlfjloaa
