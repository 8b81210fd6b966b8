/-
  Pairs: which of two means behind a move is less. Nothing of the program.
-/
import Derived.Test.YtblpfjjnlfjloaaM36
namespace Go.Proofs.Ytblpfjjnlfjloaa

/-- The second token's move leads to a smaller mean. -/
def lessB (T : Tab) (x y face : Nat) : Bool := decide ((behP T x y 1 face).1 * (behP T x y 0 face).2 < (behP T x y 0 face).1 * (behP T x y 1 face).2)
/-- The second token's move leads to a greater mean. -/
def moreB (T : Tab) (x y face : Nat) : Bool := decide ((behP T x y 0 face).1 * (behP T x y 1 face).2 < (behP T x y 1 face).1 * (behP T x y 0 face).2)
def chShort (T : Tab) (x y face : Nat) : Nat := if lessB T x y face then 1 else 0
def chLong (T : Tab) (x y face : Nat) : Nat := if lessB T x y face then 0 else 1
def chWorst (T : Tab) (x y face : Nat) : Nat := if moreB T x y face then 1 else 0
/-- Neither mean behind a move is divided by 0. -/
def gS : Tab → Nat → Nat → Nat → Prop := fun T x y face => 1 ≤ (T (x + face) y).2 ∧ 1 ≤ (T x (y + face)).2
end Go.Proofs.Ytblpfjjnlfjloaa
